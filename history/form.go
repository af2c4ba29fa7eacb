package history

import (
	"cmp"
	"iter"
	"slices"

	"barrow/api"
	"barrow/clock"
	"barrow/xform"
)

// A mark is an element of the Model that is not of a context: where it
// stands, and the number of the act that has laid it in.
type mark struct{ place, number int }

// dear is about how many elements are gone through in the time in which the
// place of one ID is sought.
const dear = 100

// beside tells the Inserts that are not of the context of a clock, by their
// marks, in the Model's order.
func (l *Log) beside(c api.Clock) iter.Seq[mark] {
	few := l.model.Len() / dear
	if clock.Lag(c, l.clock) <= few {
		return slices.Values(l.besideByActs(c))
	}
	return l.besideByModel(c)
}

func (l *Log) besideByActs(c api.Clock) []mark {
	var marks []mark
	for r, own := range l.own {
		for _, number := range own[min(max(c[r], 0), len(own)):] {
			act := l.acts[number]
			if act.Op.Kind != api.Insert {
				continue
			}
			if place, there := l.model.Index(l.idOf(act)); there {
				marks = append(marks, mark{place, number})
			}
		}
	}
	slices.SortFunc(marks, func(a, b mark) int { return cmp.Compare(a.place, b.place) })
	return marks
}

func (l *Log) besideByModel(c api.Clock) iter.Seq[mark] {
	return func(yield func(mark) bool) {
		place := 0
		for e := range l.model.All() {
			if !clock.Has(c, e.ID.Replica, e.ID.Number) {
				number, ok := l.source(e.ID)
				if ok && !yield(mark{place, number}) {
					return
				}
			}
			place++
		}
	}
}

// source is the number of the act that has laid in the element of an ID. One
// of the base has none, even if its ID is that of an act: that act is no
// Insert then.
func (l *Log) source(id api.ID) (int, bool) {
	if id.Epoch != l.epoch || !clock.Has(l.clock, id.Replica, id.Number) {
		return 0, false
	}
	number := l.own[id.Replica][id.Number-1]
	return number, l.acts[number].Op.Kind == api.Insert
}

// form is what is to be done for an act, or why nothing can be. A mark that
// has an element of the context between it and the operation's gap just counts,
// whenever its turn comes: only those in the gap itself meet the operation.
func (l *Log) form(act api.Act) (api.Op, error) {
	op := act.Op
	if l.goesOn(act) {
		op.At = l.forms[len(l.forms)-1].At + 1
		return op, nil
	}
	var near []mark // those in the gap
	ahead, all := 0, 0
	for m := range l.beside(act.Clock) {
		known := m.place - all // so many of the context are ahead of m
		switch {
		case known < op.At:
			ahead++
		case known == op.At:
			near = append(near, m)
		}
		all++
	}
	if !xform.Valid(op, l.model.Len()-all) {
		return api.Op{}, api.ErrRange
	}
	op.At += ahead + l.passedBy(op, near)
	return op, nil
}

// goesOn: is it the next character of a text whose last one was delivered
// just now, by an issuer who has learned nothing between the two? Then what
// is beside one is beside the other, and goes by the same replica numbers: so
// nothing comes between them, and the marks need not be gone through for each
// character of a long text.
func (l *Log) goesOn(act api.Act) bool {
	if len(l.acts) == 0 {
		return false
	}
	last := l.acts[len(l.acts)-1]
	next := api.Op{Kind: api.Insert, At: last.Op.At + 1, Char: act.Op.Char, Replica: last.Op.Replica}
	then, _ := clock.Tick(last.Clock, last.Op.Replica) // its issuer's clock directly behind it
	return last.Op.Kind == api.Insert && act.Op == next && act.Clock == then
}

// passedBy is how many of the marks in its gap stand ahead of an operation.
// In the turn of their acts, each that is still in the gap is an Insert at
// the operation's own place: T says on which side of it the gap goes on.
func (l *Log) passedBy(op api.Op, near []mark) int {
	low, high := 0, len(near)
	meet := func(k int, other api.Op) {
		if k < low || k >= high {
			return
		}
		other.At = op.At
		if xform.T(op, other) == op {
			high = k
		} else {
			low = k + 1
		}
	}
	for k, act := range l.inTurn(near) {
		meet(k, act.Op)
	}
	return low
}

// inTurn tells the acts of some marks in the order in which they were
// delivered, each with the place that its mark has among these.
func (l *Log) inTurn(marks []mark) iter.Seq2[int, api.Act] {
	return func(yield func(int, api.Act) bool) {
		turns := make([]int, len(marks))
		for k := range turns {
			turns[k] = k
		}
		slices.SortFunc(turns, func(a, b int) int { return cmp.Compare(marks[a].number, marks[b].number) })
		for _, k := range turns {
			if !yield(k, l.acts[marks[k].number]) {
				return
			}
		}
	}
}
