package undo_test

import (
	"testing"

	"barrow/api"
	"barrow/model"
	"barrow/undo"
)

// Each row of the chapter's table.
func TestRuns(t *testing.T) {
	s := undo.New()
	wantNoUndo(t, s)
	wantNoRedo(t, s)

	s = stackOf(row(I(1), I(2)), row(E(1)))
	wantUndo(t, s, R(1))
	wantUndo(t, s, E(2), E(1))
	wantNoUndo(t, s)
	wantRedo(t, s, R(1), R(2))
	wantRedo(t, s, E(1))
	wantNoRedo(t, s)

	s = stackOf(row(I(1)))
	wantUndo(t, s, E(1))
	s.Done(row(E(2)))
	wantNoRedo(t, s)

	s = stackOf(row(I(1)))
	wantUndo(t, s, E(1))
	s.Done(row())
	wantRedo(t, s, R(1))
}

func TestRunOf65(t *testing.T) {
	s := undo.New()
	for n := range 65 {
		s.Done(row(I(n + 1)))
	}
	if done, undone := s.Depth(); done != 64 || undone != 0 {
		t.Errorf("Depth is %d %d", done, undone)
	}
	var last []api.Change
	for range 64 {
		l, err := s.Undo()
		if err != nil {
			t.Fatal(err)
		}
		last = l
	}
	wantChanges(t, last, nil, row(E(2)))
	wantNoUndo(t, s)
}

func TestRunsOfBackAndLoad(t *testing.T) {
	l := row(I(1), E(2), R(3), change(9, 4))
	wantChanges(t, undo.Back(l), nil, row(E(3), R(2), E(1)))
	wantChanges(t, undo.Again(l), nil, row(R(1), E(2), R(3)))
	for _, undone := range [][][]api.Change{nil, edits(row(I(2))), edits(row()), edits(row(change(0, 1)))} {
		wantNoLoad(t, edits(row(I(1)), row()), undone, 1, api.ErrForm)
	}
	wantNoLoad(t, edits(row(I(1))), edits(row(I(2)), row(change(0, 3))), 2, api.ErrForm)
}

// do does to a model what Undo or Redo answers: never an Insert.
func do(t *testing.T, m *model.Model, l []api.Change, err error) {
	t.Helper()
	if err != nil {
		t.Fatal(err)
	}
	by := map[int]int{api.Erase: 1, api.Restore: -1}
	for _, c := range l {
		i, there := m.Index(c.ID)
		if !there || by[c.Kind] == 0 {
			t.Fatalf("%v can't be done", c)
		}
		if err := m.Add(i, by[c.Kind]); err != nil {
			t.Fatal(err)
		}
	}
}

// Example 1: the elements stay in the model, as erased ones, and come back.
func TestUndoneIsNotGone(t *testing.T) {
	m, err := model.Of([]api.Element{{ID: api.ID{Number: 1}, Char: 'a'}, {ID: api.ID{Number: 2}, Char: 'b'}})
	if err != nil {
		t.Fatal(err)
	}
	s := stackOf(row(I(1), I(2)))
	l, err := s.Undo()
	do(t, m, l, err)
	if m.View() != "" || m.Len() != 2 {
		t.Errorf("the view is %q, of %d elements", m.View(), m.Len())
	}
	l, err = s.Redo()
	do(t, m, l, err)
	if m.View() != "ab" || m.Len() != 2 {
		t.Errorf("the view is %q, of %d elements", m.View(), m.Len())
	}
}

// Example 2
func TestPeekTwiceIsPeekOnce(t *testing.T) {
	s := stackOf(row(I(1)), row(E(1)))
	once, err := s.Peek(false)
	wantChanges(t, once, err, row(R(1)))
	twice, err := s.Peek(false)
	wantChanges(t, twice, err, once)
	wantUndo(t, s, once...)
}

// Example 3
func TestEditsAreTheCallersOwn(t *testing.T) {
	s := loaded(t, edits(row(I(1), E(2))), edits(row(R(3))))
	done, undone := s.Edits()
	done[0][1], undone[0][0] = R(9), R(9)
	wantEdits(t, s, edits(row(I(1), E(2))), edits(row(R(3))))
	done[0], undone[0] = nil, nil
	wantEdits(t, s, edits(row(I(1), E(2))), edits(row(R(3))))
}
