package flatten_test

import (
	"math/rand"
	"testing"

	"barrow/api"
	"barrow/clock"
	"barrow/flatten"
)

// P12.8

func TestJoinLaws(t *testing.T) {
	for seed := range 3000 {
		d := &dice{anyBytes(seed, 600)}
		a, b, c := d.anyRounds(), d.anyRounds(), d.anyRounds()
		ab := flatten.Join(a, b)
		if ab != flatten.Join(b, a) {
			t.Errorf("Join is not commutative of %v and %v", a, b)
		}
		if flatten.Join(ab, c) != flatten.Join(a, flatten.Join(b, c)) {
			t.Errorf("Join is not associative of %v, %v and %v", a, b, c)
		}
		if flatten.Join(a, a) != a {
			t.Errorf("Join of %v and itself is %v", a, flatten.Join(a, a))
		}
		if flatten.Join(ab, a) != ab || flatten.Join(a, ab) != ab || flatten.Join(ab, b) != ab || flatten.Join(b, ab) != ab {
			t.Errorf("%v changes by joining %v or %v again", ab, a, b)
		}
		if t.Failed() {
			t.Fatalf("the seed is %d", seed)
		}
	}
}

// Sites that have joined the same things know the same, in whatever order and
// however often they came.
func TestDesksThatJoinedTheSame(t *testing.T) {
	for seed := range 500 {
		d := &dice{anyBytes(seed, 2000)}
		rnd := rand.New(rand.NewSource(int64(seed)))
		var things []api.Rounds
		for range 1 + rnd.Intn(8) {
			things = append(things, d.anyRounds())
		}
		first := newDesk(t, 8, 0)
		for _, r := range things {
			first.Join(r)
		}
		other := newDesk(t, 8, 7)
		twice := append(things, things[:rnd.Intn(len(things)+1)]...)
		for _, i := range rnd.Perm(len(twice)) {
			other.Join(twice[i])
		}
		wantRounds(t, other, first.Rounds())
		wantJoined(t, other, first.Rounds(), false)
		if t.Failed() {
			t.Fatalf("the seed is %d", seed)
		}
	}
}

// P12.9, W5

// A roundName is what makes two rounds one.
type roundName struct{ coordinator, number int }

// A ballot is what came of a round, whoever knows of it.
type ballot struct {
	cut      api.Clock
	votes    votes
	decision int
}

// A session is some sites that vote and decide, and a network that brings what
// they knew at any moment to anybody, in any order, any number of times.
type session struct {
	t       testing.TB
	rnd     *rand.Rand
	desks   []*flatten.Desk
	have    []api.Clock
	said    []api.Rounds
	ballots map[roundName]*ballot
}

func newSession(t testing.TB, seed int64) *session {
	s := &session{t: t, rnd: rand.New(rand.NewSource(seed)), ballots: map[roundName]*ballot{}}
	replicas := 1 + s.rnd.Intn(5)
	for self := range replicas {
		s.desks = append(s.desks, newDesk(t, replicas, self))
		s.have = append(s.have, of())
	}
	return s
}

func (s *session) anySite() int { return s.rnd.Intn(len(s.desks)) }

// learn: clocks of one site only ever grow.
func (s *session) learn(site int) { s.have[site] = clock.Merge(s.have[site], s.have[s.anySite()]) }

func (s *session) propose(site int, cut api.Clock) {
	if s.desks[site].Propose(cut) == nil {
		name := roundName{site, s.desks[site].Rounds()[site].Number}
		if s.ballots[name] != nil {
			s.t.Errorf("%v is proposed twice", name)
		}
		s.ballots[name] = &ballot{cut: cut}
	}
}

// settle writes down how the site votes and decides by that, and that it does
// neither twice, nor another one's business.
func (s *session) settle(site int) {
	before := s.desks[site].Rounds()
	changed := s.desks[site].Settle(s.have[site])
	after := s.desks[site].Rounds()
	if changed != (before != after) {
		s.t.Errorf("Settle says %v of %v and %v", changed, before, after)
	}
	for c, r := range after {
		if r == before[c] {
			continue
		}
		b := s.ballots[roundName{c, r.Number}]
		if vote := r.Votes[site]; vote != before[c].Votes[site] {
			if b.votes[site] != 0 || vote == api.Yes && s.have[site] != b.cut {
				s.t.Errorf("%d votes %d of %v by %v, and voted %d", site, vote, b.cut, s.have[site], b.votes[site])
			}
			b.votes[site] = vote
		}
		if r.Decision != before[c].Decision {
			if b.decision != 0 || c != site {
				s.t.Errorf("%d decides %d of the round of %d, which was %d", site, r.Decision, c, b.decision)
			}
			b.decision = r.Decision
		}
		before[c].Votes[site], before[c].Decision = r.Votes[site], r.Decision
		if r != before[c] {
			s.t.Errorf("Settle of %d has changed more: %v", site, r)
		}
	}
}

func (s *session) say(site int) { s.said = append(s.said, s.desks[site].Rounds()) }

func (s *session) hear(site int) {
	if len(s.said) > 0 {
		s.desks[site].Join(s.said[s.rnd.Intn(len(s.said))])
	}
}

// wantOneDecision: what anybody knows is what the coordinator has decided, and
// where that is Commit all have voted Yes.
func (s *session) wantOneDecision() {
	s.t.Helper()
	for site, d := range s.desks {
		for c, r := range d.Rounds() {
			if r.Number == 0 {
				continue
			}
			b := s.ballots[roundName{c, r.Number}]
			if r.Cut != b.cut || r.Decision != 0 && r.Decision != b.decision {
				s.t.Errorf("%d knows %v of a round that is %v", site, r, *b)
			}
			for v := range s.desks {
				if r.Decision == api.Commit && b.votes[v] != api.Yes {
					s.t.Errorf("%d knows of a Commit, but %d has voted %d", site, v, b.votes[v])
				}
			}
		}
	}
}

func TestDecisionsAreAlike(t *testing.T) {
	count := map[int]int{}
	for seed := range int64(1500) {
		s := newSession(t, seed)
		for range 150 {
			site := s.anySite()
			switch s.rnd.Intn(16) {
			case 0:
				s.have[site][s.rnd.Intn(len(s.desks))]++
			case 1, 2:
				s.learn(site)
			case 3:
				s.propose(site, s.have[site])
			case 4: // any cut may be proposed
				s.propose(site, s.have[s.anySite()])
			case 5, 6, 7:
				s.say(site)
			case 8, 9, 10, 11:
				s.hear(site)
			default:
				s.settle(site)
			}
			s.wantOneDecision()
		}
		for _, b := range s.ballots {
			count[b.decision]++
		}
		if t.Failed() {
			t.Fatalf("the seed is %d", seed)
		}
	}
	if count[0] < 1000 || count[api.Commit] < 1000 || count[api.Abort] < 1000 {
		t.Errorf("of too few rounds there is a decision: %v", count)
	}
}

// W5, as far as it is kept here: where those who are frozen issue nothing, a
// Commit finds every site at the cut, and frozen till it takes the decision in.
func TestCommitFindsAllAtTheCut(t *testing.T) {
	commits := 0
	for seed := range int64(1500) {
		s := newSession(t, seed)
		for range 200 {
			site := s.anySite()
			switch s.rnd.Intn(16) {
			case 0:
				if !s.desks[site].Frozen() {
					s.have[site][site]++
				}
			case 1, 2:
				s.learn(site)
			case 3:
				s.propose(site, s.have[site])
			case 4, 5, 6:
				s.say(site)
			case 7, 8, 9, 10:
				s.hear(site)
			default:
				s.settle(site)
			}
			if s.desks[site].Done() {
				commits++
				s.wantAllAt(s.desks[site].Rounds()[site].Cut, site)
				break
			}
		}
		if t.Failed() {
			t.Fatalf("the seed is %d", seed)
		}
	}
	if commits < 500 {
		t.Errorf("just %d sessions have come to a Commit", commits)
	}
}

func (s *session) wantAllAt(cut api.Clock, coordinator int) {
	s.t.Helper()
	for site, d := range s.desks {
		if s.have[site] != cut {
			s.t.Errorf("the cut is %v, but %d has %v", cut, site, s.have[site])
		}
		if site != coordinator && !d.Frozen() {
			s.t.Errorf("%d is not frozen, and has not taken in the decision", site)
		}
	}
}

// W5: a site is frozen just where it has voted Yes itself, in a round of which
// it knows neither a decision nor a newer one.
func TestFrozenJustBetween(t *testing.T) {
	frozen := 0
	for seed := range int64(500) {
		s := newSession(t, seed)
		for range 200 {
			site := s.anySite()
			switch s.rnd.Intn(10) {
			case 0:
				s.have[site][site]++
			case 1:
				s.learn(site)
			case 2:
				s.propose(site, s.have[site])
			case 3, 4:
				s.say(site)
			case 5, 6:
				s.hear(site)
			default:
				s.settle(site)
			}
			want := false
			for c, r := range s.desks[site].Rounds() {
				if b := s.ballots[roundName{c, r.Number}]; b != nil {
					want = want || b.votes[site] == api.Yes && r.Decision == 0
				}
			}
			if got := s.desks[site].Frozen(); got != want {
				t.Fatalf("Frozen is %v, not %v; the seed is %d", got, want, seed)
			}
			if want {
				frozen++
			}
		}
	}
	if frozen < 1000 {
		t.Errorf("sites were frozen just %d times", frozen)
	}
}
