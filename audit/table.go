package audit

import (
	"sync"

	"barrow/replica"
)

// atATime is how many work out one table.
const atATime = 4

// table is being worked out: each row up to its own place, and with it the
// column that mirrors it.
type table struct {
	looks []look
	same  [][]bool
	lock  sync.Mutex
	taken int // so many rows are begun, under the lock
}

// Table is which replicas agree.
func Table(l []*replica.Replica) [][]bool {
	t := newTable(l)
	var workers sync.WaitGroup
	for range atATime {
		workers.Go(t.work)
	}
	workers.Wait()
	return t.same
}

// newTable looks at all replicas ahead of the workers: the calls of one come
// one behind the other, and it may stand in l twice.
func newTable(l []*replica.Replica) *table {
	t := &table{looks: make([]look, len(l)), same: make([][]bool, len(l))}
	for i, r := range l {
		t.looks[i] = lookAt(r)
		t.same[i] = make([]bool, len(l))
	}
	return t
}

// work fills rows as long as there are any.
func (t *table) work() {
	for row, ok := t.take(); ok; row, ok = t.take() {
		t.fill(row)
	}
}

// take is a row that nobody else fills.
func (t *table) take() (row int, ok bool) {
	t.lock.Lock()
	defer t.lock.Unlock()
	if t.taken == len(t.looks) {
		return 0, false
	}
	t.taken++
	return t.taken - 1, true
}

// fill needs no lock: of two places, the row of the greater one fills both.
func (t *table) fill(row int) {
	for i := range row + 1 {
		same, _ := agree(t.looks[row], t.looks[i])
		t.same[row][i], t.same[i][row] = same, same
	}
}
