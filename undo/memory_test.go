package undo_test

import (
	"runtime"
	"slices"
	"testing"

	"barrow/api"
	"barrow/undo"
)

// scrawl writes over changes, their spare room too.
func scrawl(l []api.Change) {
	l = l[:cap(l)]
	for i := range l {
		l[i] = change(-7, -7)
	}
}

// scrawlAll writes over edits, their spare room too.
func scrawlAll(l [][]api.Change) {
	for _, e := range l {
		scrawl(e)
	}
	l = l[:cap(l)]
	for i := range l {
		l[i] = row(change(-8, -8))
	}
}

// roomy is a row with spare room, in which there stands something.
func roomy(l ...api.Change) []api.Change {
	out := append(make([]api.Change, 0, len(l)+4), l...)
	for i := len(l); i < cap(out); i++ {
		out[:cap(out)][i] = change(5, i)
	}
	return out
}

// R2: what is handed in is neither changed nor kept.

func TestDoneKeepsNoList(t *testing.T) {
	l := roomy(I(1), E(2))
	before := slices.Clone(l[:cap(l)])
	s := undo.New()
	s.Done(l)
	s.Done(l)
	s.Undo()
	s.Redo()
	s.Peek(false)
	if !slices.Equal(l[:cap(l)], before) {
		t.Errorf("Done's list has become %v", l[:cap(l)])
	}
	scrawl(l)
	wantEdits(t, s, edits(row(I(1), E(2)), row(I(1), E(2))), nil)
	wantUndo(t, s, R(2), E(1))
	wantRedo(t, s, R(1), E(2))
}

func TestLoadKeepsNoLists(t *testing.T) {
	one := roomy(I(1), E(2))
	both := append(make([][]api.Change, 0, 8), one, roomy(R(3)), one, roomy(I(4)))
	all := both[:cap(both)]
	all[4] = row(change(6, 6))
	// The rows lie in one piece of memory: what is done behind the first must not
	// fall into the second.
	s := loaded(t, both[:2], both[2:4])
	s.Redo()
	s.Done(row(I(5)))
	s.Undo()
	s.Done(row(I(6)))
	if !sameEdits(both, edits(row(I(1), E(2)), row(R(3)), row(I(1), E(2)), row(I(4)))) || !sameEdits(all[4:], edits(row(change(6, 6)), nil, nil, nil)) {
		t.Errorf("Load's lists have become %v", all)
	}
	if want := roomy(I(1), E(2)); !slices.Equal(one[:cap(one)], want[:cap(want)]) {
		t.Errorf("an edit has become %v", one[:cap(one)])
	}
	scrawlAll(both)
	wantEdits(t, s, edits(row(I(1), E(2)), row(R(3)), row(I(4)), row(I(6))), nil)
}

// The same edits may be given for both sides, and load more than one Stack.
func TestLoadOfSharedEdits(t *testing.T) {
	l := edits(roomy(I(1)), roomy(E(2)))
	a, b := loaded(t, l, l), loaded(t, l, l)
	a.Undo()
	a.Done(row(R(9)))
	wantEdits(t, b, l, l)
	wantEdits(t, a, edits(row(I(1)), row(R(9))), nil)
	if !sameEdits(l, edits(row(I(1)), row(E(2)))) {
		t.Errorf("Load's lists have become %v", l)
	}
}

func TestBackAndAgainKeepTheirList(t *testing.T) {
	l := roomy(I(1), E(2), change(9, 9), R(3))
	before := slices.Clone(l[:cap(l)])
	back, again := undo.Back(l), undo.Again(l)
	scrawl(back)
	wantChanges(t, again, nil, row(R(1), E(2), R(3)))
	scrawl(again)
	if !slices.Equal(l[:cap(l)], before) {
		t.Errorf("the list has become %v", l[:cap(l)])
	}
	back = undo.Back(l)
	scrawl(l)
	wantChanges(t, back, nil, row(E(3), R(2), E(1)))
}

// R2: what is answered is new memory.

func TestAnswersAreTheCallersOwn(t *testing.T) {
	s := stackOf(row(E(1), E(2)), row(E(3), R(4)))
	for range 3 {
		l, _ := s.Peek(false)
		scrawl(l)
		l, _ = s.Undo()
		scrawl(l)
		l, _ = s.Peek(true)
		scrawl(l)
		l, err := s.Redo()
		// What was E E goes over as E E again: a kept list would be told itself.
		wantChanges(t, l, err, row(E(3), R(4)))
		scrawl(l)
		done, undone := s.Edits()
		scrawlAll(done)
		scrawlAll(undone)
		wantEdits(t, s, edits(row(E(1), E(2)), row(E(3), R(4))), nil)
	}
}

// No two lists of an answer, and no two answers, share memory.
func TestListsOfEditsShareNothing(t *testing.T) {
	same := row(I(1), E(2))
	s := loaded(t, edits(same, same), edits(same, same))
	done, undone := s.Edits()
	again, _ := s.Edits()
	for i, l := range slices.Concat(done, undone) {
		scrawl(l)
		for k, other := range slices.Concat(done, undone) {
			if k > i && !slices.Equal(other, same) {
				t.Errorf("the edit %d is now %v", k, other)
			}
		}
	}
	scrawlAll(done)
	scrawlAll(undone)
	if !sameEdits(again, edits(same, same)) {
		t.Errorf("the other answer has become %v", again)
	}
}

// What was answered stays, whatever is done behind it.
func TestAnswersStay(t *testing.T) {
	s := loaded(t, edits(row(I(1)), row(E(2))), edits(row(E(3))))
	done, undone := s.Edits()
	peeked, _ := s.Peek(false)
	redone, _ := s.Redo()
	undone1, _ := s.Undo()
	s.Undo()
	s.Done(row(I(7)))
	for n := range 70 {
		s.Done(row(I(n)))
	}
	s.Clear()
	s.Done(row(I(8)))
	if !sameEdits(done, edits(row(I(1)), row(E(2)))) || !sameEdits(undone, edits(row(E(3)))) {
		t.Errorf("Edits are %v, %v by now", done, undone)
	}
	wantChanges(t, peeked, nil, row(R(2)))
	wantChanges(t, redone, nil, row(E(3)))
	wantChanges(t, undone1, nil, row(R(3)))
}

// heapBehind is how many bytes more are in use behind a call than ahead of it.
func heapBehind(call func()) int64 {
	var ahead, behind runtime.MemStats
	runtime.GC()
	runtime.ReadMemStats(&ahead)
	call()
	runtime.GC()
	runtime.ReadMemStats(&behind)
	return int64(behind.HeapAlloc) - int64(ahead.HeapAlloc)
}

const great = 1 << 19 // changes, of 32 bytes each

func greatEdit() []api.Change {
	l := make([]api.Change, great)
	for i := range l {
		l[i] = E(i)
	}
	return l
}

// What is forgotten is not kept.
func TestForgottenIsNotKept(t *testing.T) {
	for name, forget := range map[string]func(s *undo.Stack){
		"cleared":         func(s *undo.Stack) { s.Clear() },
		"undone, cleared": func(s *undo.Stack) { s.Undo(); s.Clear() },
		"undone, done":    func(s *undo.Stack) { s.Undo(); s.Done(row(I(1))) },
		"below the done":  func(s *undo.Stack) { s.Undo(); s.Undo(); s.Done(row(I(1))) },
		"the oldest": func(s *undo.Stack) {
			for n := range api.MaxUndo {
				s.Done(row(I(n)))
			}
		},
	} {
		s := undo.New()
		more := heapBehind(func() {
			s.Done(row(I(0)))
			s.Done(greatEdit())
			forget(s)
		})
		if more > great*8 {
			t.Errorf("%s: %d bytes more are in use", name, more)
		}
		s.Done(row(I(2)))
	}
}

// R4: Stacks know nothing of each other.
func TestStacksAreApart(t *testing.T) {
	a, b := undo.New(), undo.New()
	a.Done(row(I(1)))
	wantEdits(t, b, nil, nil)
	b.Done(row(E(2)))
	c := loaded(t, edits(row(I(1))), nil)
	a.Undo()
	b.Clear()
	wantEdits(t, a, nil, edits(row(I(1))))
	wantEdits(t, b, nil, nil)
	wantEdits(t, c, edits(row(I(1))), nil)
}
