package flatten

import (
	"barrow/api"
	"barrow/clock"
)

// How far a round has come at a site.
const (
	unknown = iota
	proposed
	voted
	decided
)

// isOpen: was it proposed, and is there no decision?
func isOpen(r api.Round) bool { return r.Number >= 1 && r.Decision == 0 }

// reached is how far a round has come at this site.
func (d *Desk) reached(r api.Round) int {
	switch {
	case r.Number < 1:
		return unknown
	case !isOpen(r):
		return decided
	case r.Votes[d.self] != 0:
		return voted
	}
	return proposed
}

// goneOn is a coordinator's round, brought on as far as this site can.
func (d *Desk) goneOn(coordinator int, have api.Clock) api.Round {
	r := d.rounds[coordinator]
	switch d.reached(r) {
	case proposed:
		r.Votes[d.self] = Vote(r.Cut, have)
		// Though this site may still wait, a No of another one decides.
		fallthrough
	case voted:
		// Only the coordinator decides, so that no two decisions are unlike.
		if coordinator == d.self {
			r.Decision = Verdict(r, d.replicas)
		}
	}
	return r
}

// joined is what two sites know of one coordinator's round.
func joined(a, b api.Round) api.Round {
	switch {
	case a.Number > b.Number:
		return a
	case a.Number < b.Number:
		return b
	}
	a.Cut = clock.Merge(a.Cut, b.Cut)
	for replica := range a.Votes {
		a.Votes[replica] = max(a.Votes[replica], b.Votes[replica])
	}
	a.Decision = max(a.Decision, b.Decision)
	return a
}

// voteOf is 0 where there is no such replica.
func voteOf(r api.Round, replica int) int {
	if replica < 0 || replica >= api.MaxReplicas {
		return 0
	}
	return r.Votes[replica]
}
