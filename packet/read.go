package packet

import (
	"math"

	"barrow/api"
	"barrow/fault"
	"barrow/wire"
)

// leastAct is how many bytes wire is told that an act has at least.
const leastAct = 4

// stop is what a reading that can't go on panics with.
type stop struct {
	refusal error
}

func giveUp(at int, why error) { panic(stop{fault.New(layer, "Read", at, why)}) }

// attempt does a reading, and tells why it gave up, if it did.
func attempt(read func()) (err error) {
	defer func() {
		if given, up := recover().(stop); up {
			err = given.refusal
		}
	}()
	read()
	return nil
}

// reading goes through the bytes of a message, and gives up at the first
// thing that is refused.
type reading struct {
	from *wire.Reader
}

// check gives up, if wire has refused. That does not move the place.
func (r reading) check(err error) {
	if err != nil {
		giveUp(r.from.At(), err)
	}
}

func (r reading) message() (m api.Message) {
	m.Kind = r.kind(api.State)
	m.From = r.number(lastReplica)
	m.Epoch = r.number(greatest)
	switch m.Kind {
	case api.Acts:
		m.Acts = r.acts()
	case api.Digest:
		m.Clock = r.row(greatest)
	case api.Reply:
		m.Acts = r.acts()
		fallthrough
	case api.State:
		m.Rounds = r.rounds()
	}
	r.check(r.from.End())
	return m
}

func (r reading) acts() (acts []api.Act) {
	n, err := r.from.Count(leastAct, math.MaxInt32)
	r.check(err)
	// An act takes far more memory than bytes: so none is made room for
	// ahead of being read.
	for range n {
		acts = append(acts, r.act())
	}
	return acts
}

func (r reading) act() (act api.Act) {
	act.Op = r.op()
	act.Number = r.notZero(greatest)
	act.Clock = r.row(greatest)
	return act
}

func (r reading) op() (op api.Op) {
	op.Kind = r.kind(api.Restore)
	op.Replica = r.number(lastReplica)
	op.At = r.number(greatest)
	if op.Kind == api.Insert {
		op.Char = rune(r.number(api.MaxChar))
	}
	return op
}

func (r reading) row(most int) (l row) {
	n := r.number(len(l))
	for i := range n {
		l[i] = r.entry(i == n-1, most)
	}
	return l
}

func (r reading) rounds() (rounds api.Rounds) {
	n := r.number(len(rounds))
	for i := range n {
		rounds[i] = r.round(i == n-1)
	}
	return rounds
}

func (r reading) round(last bool) (round api.Round) {
	round.Number = r.entry(last, greatest)
	if round.Number == 0 {
		return round
	}
	round.Cut = r.row(greatest)
	round.Votes = r.row(api.No)
	round.Decision = r.number(api.Abort)
	return round
}

// kind reads one of the kinds, of which the last one is named.
func (r reading) kind(last int) int {
	at := r.from.At()
	kind, err := r.from.Byte()
	r.check(err)
	if !isOneOf(int(kind), last) {
		giveUp(at, api.ErrForm)
	}
	return int(kind)
}

func (r reading) number(most int) int {
	n, err := r.from.Number(most)
	r.check(err)
	return n
}

func (r reading) notZero(most int) int {
	at := r.from.At()
	n := r.number(most)
	if n == 0 {
		giveUp(at, api.ErrForm)
	}
	return n
}

// entry reads one of a list. If the last one might be 0, the list would have
// a shorter form too.
func (r reading) entry(last bool, most int) int {
	if last {
		return r.notZero(most)
	}
	return r.number(most)
}
