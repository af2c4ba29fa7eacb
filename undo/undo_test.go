package undo_test

import (
	"errors"
	"math"
	"slices"
	"testing"

	"barrow/api"
	"barrow/fault"
	"barrow/undo"
)

const (
	most  = math.MaxInt
	least = math.MinInt
)

func change(kind, n int) api.Change { return api.Change{Kind: kind, ID: api.ID{Number: n}} }

// Changes as the chapter writes them.
func I(n int) api.Change { return change(api.Insert, n) }
func E(n int) api.Change { return change(api.Erase, n) }
func R(n int) api.Change { return change(api.Restore, n) }

func row(l ...api.Change) []api.Change { return l }

func edits(l ...[]api.Change) [][]api.Change { return l }

// inserts are n edits: I(from), I(from + 1) ..
func inserts(from, n int) [][]api.Change {
	var l [][]api.Change
	for i := range n {
		l = append(l, row(I(from+i)))
	}
	return l
}

func sameEdits(a, b [][]api.Change) bool { return slices.EqualFunc(a, b, slices.Equal) }

// loaded is a Stack of those edits.
func loaded(t testing.TB, done, undone [][]api.Change) *undo.Stack {
	t.Helper()
	s, err := undo.Load(done, undone)
	if s == nil || err != nil {
		t.Fatalf("Load is %v, %v", s, err)
	}
	return s
}

// stackOf has done those edits, one behind the other.
func stackOf(l ...[]api.Change) *undo.Stack {
	s := undo.New()
	for _, e := range l {
		s.Done(e)
	}
	return s
}

func wantRefusal(t testing.TB, err error, call string, at int, why error) {
	t.Helper()
	f, ok := err.(*fault.Fault)
	if !ok || *f != (fault.Fault{Layer: "undo", Call: call, At: at, Why: why}) || !errors.Is(err, why) {
		t.Errorf("the error is %v, not that of %s at %d: %v", err, call, at, why)
	}
}

func wantChanges(t testing.TB, got []api.Change, err error, want []api.Change) {
	t.Helper()
	if err != nil || !slices.Equal(got, want) {
		t.Errorf("%v, %v is answered, not %v", got, err, want)
	}
}

func wantNone(t testing.TB, got []api.Change, err error, call string) {
	t.Helper()
	wantRefusal(t, err, call, -1, api.ErrNone)
	if len(got) != 0 {
		t.Errorf("%v stands beside the error of %s", got, call)
	}
}

// wantEdits holds Depth and Edits.
func wantEdits(t testing.TB, s *undo.Stack, done, undone [][]api.Change) {
	t.Helper()
	if d, u := s.Edits(); !sameEdits(d, done) || !sameEdits(u, undone) {
		t.Errorf("Edits are %v, %v, not %v, %v", d, u, done, undone)
	}
	if d, u := s.Depth(); d != len(done) || u != len(undone) {
		t.Errorf("Depth is %d %d, not %d %d", d, u, len(done), len(undone))
	}
}

// wantUndo asks Peek first, which must say the same and change nothing.
func wantUndo(t testing.TB, s *undo.Stack, want ...api.Change) {
	t.Helper()
	l, err := s.Peek(false)
	wantChanges(t, l, err, want)
	l, err = s.Undo()
	wantChanges(t, l, err, want)
}

func wantRedo(t testing.TB, s *undo.Stack, want ...api.Change) {
	t.Helper()
	l, err := s.Peek(true)
	wantChanges(t, l, err, want)
	l, err = s.Redo()
	wantChanges(t, l, err, want)
}

// wantNoUndo: nothing can be undone, and asking for it changes nothing.
func wantNoUndo(t testing.TB, s *undo.Stack) {
	t.Helper()
	done, undone := s.Edits()
	l, err := s.Peek(false)
	wantNone(t, l, err, "Undo")
	l, err = s.Undo()
	wantNone(t, l, err, "Undo")
	wantEdits(t, s, done, undone)
}

func wantNoRedo(t testing.TB, s *undo.Stack) {
	t.Helper()
	done, undone := s.Edits()
	l, err := s.Peek(true)
	wantNone(t, l, err, "Redo")
	l, err = s.Redo()
	wantNone(t, l, err, "Redo")
	wantEdits(t, s, done, undone)
}

func wantNoLoad(t testing.TB, done, undone [][]api.Change, at int, why error) {
	t.Helper()
	s, err := undo.Load(done, undone)
	wantRefusal(t, err, "Load", at, why)
	if s != nil {
		t.Errorf("Load answers %v beside %v", s, err)
	}
}

// noKinds are of no change.
var noKinds = []int{0, 4, -1, 5, 9, -2, -3, most, least, 1 << 32, 1<<32 + 1, 257}

// P14.1: each kind's way back and again, and the orders.
func TestBackAndAgain(t *testing.T) {
	for _, x := range []struct{ l, back, again []api.Change }{
		{nil, nil, nil},
		{row(I(1)), row(E(1)), row(R(1))},
		{row(E(1)), row(R(1)), row(E(1))},
		{row(R(1)), row(E(1)), row(R(1))},
		{row(I(1), I(2), I(3)), row(E(3), E(2), E(1)), row(R(1), R(2), R(3))},
		{row(E(3), I(2), E(1)), row(R(1), E(2), R(3)), row(E(3), R(2), E(1))},
		{row(I(1), E(1), R(1), I(1)), row(E(1), E(1), R(1), E(1)), row(R(1), E(1), R(1), R(1))},
	} {
		wantChanges(t, undo.Back(x.l), nil, x.back)
		wantChanges(t, undo.Again(x.l), nil, x.again)
	}
	wantChanges(t, undo.Back(row()), nil, nil)
	wantChanges(t, undo.Again(row()), nil, nil)
}

// P14.1: other kinds are left out, wherever they stand.
func TestOtherKindsAreLeftOut(t *testing.T) {
	for _, k := range noKinds {
		other := change(k, 7)
		wantChanges(t, undo.Back(row(other)), nil, nil)
		wantChanges(t, undo.Again(row(other, other)), nil, nil)
		l := row(other, I(1), other, E(2), R(3), other)
		wantChanges(t, undo.Back(l), nil, row(E(3), R(2), E(1)))
		wantChanges(t, undo.Again(l), nil, row(R(1), E(2), R(3)))
	}
}

// P14.1: the ID goes along as a whole, whatever its numbers are.
func TestIDsAreKept(t *testing.T) {
	a, b := api.ID{Epoch: 1, Replica: 2, Number: 3}, api.ID{Epoch: most, Replica: least, Number: -1}
	l := row(api.Change{Kind: api.Insert, ID: a}, api.Change{Kind: api.Erase, ID: b}, api.Change{Kind: api.Restore})
	wantChanges(t, undo.Back(l), nil, row(E(0), api.Change{Kind: api.Restore, ID: b}, api.Change{Kind: api.Erase, ID: a}))
	wantChanges(t, undo.Again(l), nil, row(api.Change{Kind: api.Restore, ID: a}, api.Change{Kind: api.Erase, ID: b}, R(0)))
	s := stackOf(l)
	wantEdits(t, s, edits(l), nil)
}

// P14.2: the newest is undone first; what could be redone can no more.
func TestDone(t *testing.T) {
	s := undo.New()
	wantEdits(t, s, nil, nil)
	s.Done(row(I(1)))
	s.Done(row(E(2), R(3)))
	s.Done(row(R(4)))
	wantEdits(t, s, edits(row(I(1)), row(E(2), R(3)), row(R(4))), nil)
	wantUndo(t, s, E(4))
	wantUndo(t, s, E(3), R(2))
	s.Done(row(I(5)))
	wantEdits(t, s, edits(row(I(1)), row(I(5))), nil)
	wantNoRedo(t, s)
}

// P14.2: of no changes nothing is done, be it with edits to undo, to redo, or none.
func TestDoneOfNothing(t *testing.T) {
	done, undone := edits(row(I(1))), edits(row(I(3)), row(I(2)))
	s := loaded(t, done, undone)
	s.Done(nil)
	wantEdits(t, s, done, undone)
	s.Done(row())
	s.Done(make([]api.Change, 0, 4))
	wantEdits(t, s, done, undone)
	wantRedo(t, s, R(2))
	s = undo.New()
	s.Done(nil)
	wantEdits(t, s, nil, nil)
	wantNoUndo(t, s)
	full := loaded(t, inserts(1, api.MaxUndo), nil)
	full.Done(nil)
	wantEdits(t, full, inserts(1, api.MaxUndo), nil)
}

// P14.2: one past MaxUndo the oldest is forgotten, and just that.
func TestOldestIsForgotten(t *testing.T) {
	s := undo.New()
	for n := 1; n <= 3*api.MaxUndo; n++ {
		s.Done(row(I(n)))
		first := max(1, n-api.MaxUndo+1)
		wantEdits(t, s, inserts(first, n-first+1), nil)
	}
	for n := 3 * api.MaxUndo; n > 2*api.MaxUndo; n-- {
		wantUndo(t, s, E(n))
	}
	wantNoUndo(t, s)
	for n := 2*api.MaxUndo + 1; n <= 3*api.MaxUndo; n++ {
		wantRedo(t, s, R(n))
	}
	wantNoRedo(t, s)
	wantEdits(t, s, inserts(2*api.MaxUndo+1, api.MaxUndo), nil)
}

// With what was undone there was room again: nothing is forgotten.
func TestUndoneMakeRoom(t *testing.T) {
	s := loaded(t, inserts(1, api.MaxUndo), nil)
	wantUndo(t, s, E(api.MaxUndo))
	s.Done(row(I(99)))
	wantEdits(t, s, append(inserts(1, api.MaxUndo-1), row(I(99))), nil)
	s.Done(row(I(100)))
	wantEdits(t, s, append(inserts(2, api.MaxUndo-2), row(I(99)), row(I(100))), nil)
}

// An edit is kept as it was done, with what is no change too: that has no way
// back, and the edit counts nevertheless.
func TestDoneOfOtherKinds(t *testing.T) {
	for _, k := range noKinds {
		s := stackOf(row(I(1)), row(change(k, 2)), row(E(3), change(k, 4)))
		wantEdits(t, s, edits(row(I(1)), row(change(k, 2)), row(E(3), change(k, 4))), nil)
		wantUndo(t, s, R(3))
		wantUndo(t, s)
		wantEdits(t, s, edits(row(I(1))), edits(row(E(3), change(k, 4)), row(change(k, 2))))
		wantRedo(t, s)
		wantRedo(t, s, E(3))
		wantNoRedo(t, s)
	}
}

// P14.3: an edit goes over from one side to the other, the newest first.
func TestUndoAndRedo(t *testing.T) {
	a, b, c := row(I(1), I(2)), row(E(2)), row(R(2), I(3))
	s := stackOf(a, b, c)
	wantUndo(t, s, E(3), E(2))
	wantEdits(t, s, edits(a, b), edits(c))
	wantUndo(t, s, R(2))
	wantEdits(t, s, edits(a), edits(c, b))
	wantRedo(t, s, E(2))
	wantEdits(t, s, edits(a, b), edits(c))
	wantUndo(t, s, R(2))
	wantUndo(t, s, E(2), E(1))
	wantEdits(t, s, nil, edits(c, b, a))
	wantNoUndo(t, s)
	wantRedo(t, s, R(1), R(2))
	wantRedo(t, s, E(2))
	wantRedo(t, s, R(2), R(3))
	wantEdits(t, s, edits(a, b, c), nil)
	wantNoRedo(t, s)
}

// P14.3: each side is refused for itself, by the name of its call.
func TestNothingThere(t *testing.T) {
	wantNoUndo(t, undo.New())
	wantNoRedo(t, undo.New())
	s := stackOf(row(I(1)))
	wantNoRedo(t, s)
	wantUndo(t, s, E(1))
	wantNoUndo(t, s)
	wantRedo(t, s, R(1))
	wantNoRedo(t, s)
	s = loaded(t, nil, nil)
	wantNoUndo(t, s)
	wantNoRedo(t, s)
}

// P14.3: Peek changes nothing, however often it is asked.
func TestPeek(t *testing.T) {
	done, undone := edits(row(I(1)), row(I(2), E(3))), edits(row(R(5)), row(I(4)))
	s := loaded(t, done, undone)
	for range 3 {
		l, err := s.Peek(false)
		wantChanges(t, l, err, row(R(3), E(2)))
		l, err = s.Peek(true)
		wantChanges(t, l, err, row(R(4)))
		wantEdits(t, s, done, undone)
	}
}

// P14.4: Clear forgets both sides, and what comes behind it counts anew.
func TestClear(t *testing.T) {
	s := loaded(t, inserts(1, 3), inserts(8, 2))
	s.Clear()
	wantEdits(t, s, nil, nil)
	wantNoUndo(t, s)
	wantNoRedo(t, s)
	s.Clear()
	s.Done(row(I(7)))
	wantEdits(t, s, inserts(7, 1), nil)
	wantUndo(t, s, E(7))
	s.Clear()
	wantNoRedo(t, s)
	undo.New().Clear()
}

// P14.4: just these edits, in the order in which Edits tells them.
func TestLoad(t *testing.T) {
	for _, x := range []struct{ done, undone [][]api.Change }{
		{nil, nil},
		{edits(), edits()},
		{edits(row(I(1), E(2)), row(R(3))), nil},
		{nil, edits(row(I(1), E(2)), row(R(3)))},
		{inserts(1, 3), inserts(11, 4)},
		{inserts(1, api.MaxUndo), nil},
		{nil, inserts(1, api.MaxUndo)},
		{inserts(1, 1), inserts(2, api.MaxUndo-1)},
	} {
		wantEdits(t, loaded(t, x.done, x.undone), x.done, x.undone)
	}
	s := loaded(t, edits(row(I(1)), row(E(2))), edits(row(I(4)), row(I(3))))
	wantRedo(t, s, R(3))
	wantRedo(t, s, R(4))
	wantNoRedo(t, s)
	wantUndo(t, s, E(4))
	wantUndo(t, s, E(3))
	wantUndo(t, s, R(2))
	wantUndo(t, s, E(1))
	wantNoUndo(t, s)
}

// A Stack that is full to both sides goes over whole, either way.
func TestLoadOfFullSides(t *testing.T) {
	s := loaded(t, nil, inserts(1, api.MaxUndo))
	for n := api.MaxUndo; n > 0; n-- {
		wantRedo(t, s, R(n))
	}
	wantNoRedo(t, s)
	for n := range api.MaxUndo {
		wantUndo(t, s, E(n+1))
	}
	wantEdits(t, s, nil, inserts(1, api.MaxUndo))
}

// P14.4: more than MaxUndo are refused by how many they are together, ahead of
// what is wrong with one of them.
func TestLoadOfTooMany(t *testing.T) {
	for _, x := range [][2]int{{65, 0}, {0, 65}, {64, 1}, {1, 64}, {33, 32}, {100, 200}, {0, 1000}, {64, 64}} {
		wantNoLoad(t, inserts(1, x[0]), inserts(1, x[1]), x[0]+x[1], api.ErrArg)
		wantNoLoad(t, make([][]api.Change, x[0]), make([][]api.Change, x[1]), x[0]+x[1], api.ErrArg)
	}
	wantNoLoad(t, make([][]api.Change, 64), nil, 0, api.ErrForm)
}

// P14.4: an edit of no changes, or with one of no kind, is refused at its place,
// the first one of them.
func TestLoadOfWrongEdits(t *testing.T) {
	right := row(I(1), E(2), R(3))
	wrong := [][]api.Change{nil, {}}
	for _, k := range noKinds {
		wrong = append(wrong, row(change(k, 1)), row(change(k, 1), I(2)), row(I(1), change(k, 2), E(3)), row(I(1), E(2), change(k, 3)))
	}
	for _, w := range wrong {
		wantNoLoad(t, edits(w), nil, 0, api.ErrForm)
		wantNoLoad(t, nil, edits(w), 0, api.ErrForm)
		wantNoLoad(t, edits(right, w), edits(right), 1, api.ErrForm)
		wantNoLoad(t, edits(right), edits(w, right), 1, api.ErrForm)
		wantNoLoad(t, edits(right, right), edits(right, right, w), 4, api.ErrForm)
		wantNoLoad(t, edits(right, w, w), edits(w), 1, api.ErrForm)
		wantNoLoad(t, edits(right, right, w), edits(w), 2, api.ErrForm)
		wantNoLoad(t, nil, edits(right, w, w), 1, api.ErrForm)
	}
	wantNoLoad(t, inserts(1, 63), edits(nil), 63, api.ErrForm)
}
