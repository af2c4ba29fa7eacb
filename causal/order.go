package causal

import (
	"slices"

	"barrow/api"
	"barrow/clock"
)

// Order is acts in an order in which they can be delivered, and those that can't.
func Order(l []api.Act, have api.Clock) (sorted, rest []api.Act) {
	q := newQueue(l, have)
	for i := q.next(); i < len(l); i = q.next() {
		sorted = append(sorted, l[i])
		q.deliver(l[i])
	}
	// By now the clock has those that it had at first and the sorted ones.
	return sorted, Missing(l, q.have, len(l))
}

// A queue is a list of acts that a site delivers as their causes come. Each of
// them lies under one cause that is not delivered; when that comes, it goes on to
// one of another replica. So it is moved eight times at most, and the list need
// not be gone through for each delivery.
type queue struct {
	list    []api.Act
	have    api.Clock
	waiting map[name][]int // by the cause: places in the list
	// Of each replica the first place of an act that is Ready; the list's
	// length, if none is. All of one replica that are Ready have one name: so
	// when one of them is delivered, none of them is Ready any more.
	first [api.MaxReplicas]int
}

func newQueue(l []api.Act, have api.Clock) *queue {
	q := &queue{list: l, have: have, waiting: map[name][]int{}}
	for r := range q.first {
		q.first[r] = len(l)
	}
	for i := range l {
		q.put(i)
	}
	return q
}

// put lays an act under a cause that is not delivered, or among those that are
// Ready. Where no cause is lacking, it is Ready now or never.
func (q *queue) put(i int) {
	act := q.list[i]
	if cause, lacking := q.lacking(act.Clock); lacking {
		q.waiting[cause] = append(q.waiting[cause], i)
		return
	}
	if clock.Ready(q.have, act) {
		r := act.Op.Replica
		q.first[r] = min(q.first[r], i)
	}
}

// lacking is the last one of those that a clock has of the first replica of
// which some are not delivered.
func (q *queue) lacking(c api.Clock) (name, bool) {
	for r, number := range c {
		if number > q.have[r] {
			return name{r, number}, true
		}
	}
	return name{}, false
}

// next is the first place of an act that is Ready; the list's length, if none is.
func (q *queue) next() int { return slices.Min(q.first[:]) }

// deliver takes an act that is Ready, and lets go on what was waiting for it.
func (q *queue) deliver(act api.Act) {
	r := act.Op.Replica
	q.have[r] = act.Number
	q.first[r] = len(q.list)
	woken := q.waiting[nameOf(act)]
	delete(q.waiting, nameOf(act))
	for _, i := range woken {
		q.put(i)
	}
}
