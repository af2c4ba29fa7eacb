package anchor_test

import (
	"testing"

	"barrow/anchor"
	"barrow/api"
)

// Each row of the chapter's table: A, b and C are the elements 1, 2 and 3.
func TestRuns(t *testing.T) {
	m := of(t, "AbC")
	for p, want := range []api.Anchor{front(), by(1), by(3)} {
		wantAt(t, m, p, want)
	}
	wantNoGap(t, m, 3, api.ErrRange)
	wantNoGap(t, m, -1, api.ErrRange)

	for n, want := range map[int]int{1: 1, 2: 1, 3: 2} {
		wantWhere(t, m, by(n), want)
	}
	wantNowhere(t, m, by(9))
	wantWhere(t, m, front(), 0)

	wantRebased(t, m, by(2), by(1))
	wantRebased(t, m, by(3), by(3))
	wantRebased(t, m, front(), front())
	wantRebased(t, of(t, "ab"), by(1), front())

	wantSpan(t, m, by(3), by(1), 1, 2)
	wantNoSpan(t, m, by(3), by(9))

	wantSame(t, m, by(1), by(2), true)
	wantSame(t, m, by(1), by(3), false)
	wantSame(t, m, front(), front(), true)

	wantSorted(t, m, []api.Anchor{by(3), by(9), by(2), by(1), front()}, front(), by(2), by(1), by(3))
}

func TestRunOfAnInsert(t *testing.T) {
	m := of(t, "AbC")
	i, err := m.Place(1)
	wantDone(t, err)
	wantDone(t, m.Insert(i, api.Element{ID: id(4), Char: 'X'}))
	wantWhere(t, m, by(1), 1)
	wantWhere(t, m, by(3), 3)
}

func TestExamples(t *testing.T) {
	wantAt(t, of(t, ""), 0, front())
	wantWhere(t, of(t, "AbC"), frontWith(3), 0)
	m := of(t, "ABcdE")
	wantDone(t, m.Add(1, 1))
	for _, n := range []int{2, 3, 4} {
		wantSame(t, m, by(n), by(1), true)
		wantRebased(t, m, by(n), by(1))
	}
}

// Example 10 of the whole: an anchor behind "b" moves with what comes ahead.
func TestCursorMoves(t *testing.T) {
	m := of(t, "ABC")
	a, err := anchor.At(m, 2)
	wantDone(t, err)
	for k := range 2 {
		wantDone(t, m.Insert(0, api.Element{ID: id(10 + k), Char: 'Z'}))
	}
	wantWhere(t, m, a, 4)
}
