package undo_test

import (
	"slices"

	"barrow/api"
)

// A plainStack does what the chapter says, sentence by sentence, on rows that are
// made anew at each step.
type plainStack struct{ done, undone [][]api.Change }

func plainBack(l []api.Change) []api.Change {
	var out []api.Change
	for i := len(l) - 1; i >= 0; i-- {
		switch l[i].Kind {
		case api.Insert, api.Restore:
			out = append(out, api.Change{Kind: api.Erase, ID: l[i].ID})
		case api.Erase:
			out = append(out, api.Change{Kind: api.Restore, ID: l[i].ID})
		}
	}
	return out
}

func plainAgain(l []api.Change) []api.Change {
	var out []api.Change
	for _, c := range l {
		switch c.Kind {
		case api.Insert, api.Restore:
			out = append(out, api.Change{Kind: api.Restore, ID: c.ID})
		case api.Erase:
			out = append(out, api.Change{Kind: api.Erase, ID: c.ID})
		}
	}
	return out
}

// add makes an edit the newest that can be undone.
func (s *plainStack) add(l []api.Change) {
	if len(s.done) == 64 {
		s.done = s.done[1:]
	}
	s.done = slices.Concat(s.done, edits(slices.Clone(l)))
}

func (s *plainStack) did(l []api.Change) {
	if len(l) > 0 {
		s.add(l)
		s.undone = nil
	}
}

// undo and redo are false, if there is nothing.
func (s *plainStack) undo() ([]api.Change, bool) {
	n := len(s.done)
	if n == 0 {
		return nil, false
	}
	edit := s.done[n-1]
	s.done, s.undone = s.done[:n-1], slices.Concat(s.undone, edits(edit))
	return plainBack(edit), true
}

func (s *plainStack) redo() ([]api.Change, bool) {
	n := len(s.undone)
	if n == 0 {
		return nil, false
	}
	edit := s.undone[n-1]
	s.undone = s.undone[:n-1]
	s.add(edit)
	return plainAgain(edit), true
}

func (s *plainStack) clear() { s.done, s.undone = nil, nil }

// plainLoad also tells the place of the refusal.
func plainLoad(done, undone [][]api.Change) (*plainStack, int, error) {
	if n := len(done) + len(undone); n > 64 {
		return nil, n, api.ErrArg
	}
	for i, l := range slices.Concat(done, undone) {
		if len(l) == 0 {
			return nil, i, api.ErrForm
		}
		for _, c := range l {
			if c.Kind != api.Insert && c.Kind != api.Erase && c.Kind != api.Restore {
				return nil, i, api.ErrForm
			}
		}
	}
	return &plainStack{cloned(done), cloned(undone)}, 0, nil
}

func cloned(l [][]api.Change) [][]api.Change {
	var out [][]api.Change
	for _, e := range l {
		out = append(out, slices.Clone(e))
	}
	return out
}
