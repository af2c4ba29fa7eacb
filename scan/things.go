package scan

import (
	"math"

	"barrow/api"
)

// Greatest is the greatest number that has a form in bytes.
const Greatest = math.MaxInt

// leastAct is how many bytes wire is told that an act has at least.
const leastAct = 4

// Acts reads some acts.
func (r *Reader) Acts() []api.Act { return List(r, leastAct, act) }

func act(r *Reader) (a api.Act) {
	a.Op = op(r)
	a.Number = r.notZero(Greatest)
	a.Clock = r.Clock()
	return a
}

func op(r *Reader) (op api.Op) {
	op.Kind = r.Byte(api.Insert, api.Restore)
	op.Replica = r.Number(api.MaxReplicas - 1)
	op.At = r.Number(Greatest)
	if op.Kind == api.Insert {
		op.Char = r.Char()
	}
	return op
}

// Char reads a character.
func (r *Reader) Char() rune { return rune(r.Number(api.MaxChar)) }

// Clock reads a clock.
func (r *Reader) Clock() api.Clock { return r.row(Greatest) }

// row reads of each replica a number, as a clock or the votes of a round.
func (r *Reader) row(most int) (l [api.MaxReplicas]int) {
	n := r.Number(len(l))
	for i := range n {
		l[i] = r.entry(i == n-1, most)
	}
	return l
}

// Rounds reads the rounds that someone knows.
func (r *Reader) Rounds() (rounds api.Rounds) {
	n := r.Number(len(rounds))
	for i := range n {
		rounds[i] = r.round(i == n-1)
	}
	return rounds
}

func (r *Reader) round(last bool) (round api.Round) {
	round.Number = r.entry(last, Greatest)
	if round.Number == 0 {
		return round
	}
	round.Cut = r.Clock()
	round.Votes = r.row(api.No)
	round.Decision = r.Number(api.Abort)
	return round
}
