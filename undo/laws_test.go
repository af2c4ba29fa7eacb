package undo_test

import (
	"maps"
	"math/rand"
	"testing"

	"barrow/api"
	"barrow/undo"
)

// counts is of each element how many erases less restores were done to it.
type counts map[api.ID]int

func (c counts) do(l []api.Change) {
	for _, x := range l {
		switch x.Kind {
		case api.Erase:
			c[x.ID]++
		case api.Restore:
			c[x.ID]--
		}
	}
}

func (c counts) same(other counts) bool {
	for id := range other {
		if c[id] != other[id] {
			return false
		}
	}
	for id := range c {
		if c[id] != other[id] {
			return false
		}
	}
	return true
}

// allRows are all rows of up to n changes by kinds 0 to 4, each of an ID 1 or 2.
func allRows(n int) [][]api.Change {
	rows := edits(nil)
	for from := 0; n > 0; n-- {
		till := len(rows)
		for _, l := range rows[from:till] {
			for k := range 5 {
				for id := 1; id <= 2; id++ {
					rows = append(rows, append(l[:len(l):len(l)], change(k, id)))
				}
			}
		}
		from = till
	}
	return rows
}

// P14.1, P14.5, P14.6, of every short edit.
func TestAllShortEdits(t *testing.T) {
	for _, l := range allRows(4) {
		back, again := undo.Back(l), undo.Again(l)
		wantChanges(t, back, nil, plainBack(l))
		wantChanges(t, again, nil, plainAgain(l))
		c := counts{}
		c.do(back)
		c.do(again)
		if !c.same(counts{}) {
			t.Errorf("back and again of %v leave %v", l, c)
		}
		if len(l) == 0 {
			continue
		}
		s := stackOf(row(R(9)), l)
		wantUndo(t, s, back...)
		wantRedo(t, s, again...)
		wantEdits(t, s, edits(row(R(9)), l), nil)
		if t.Failed() {
			return
		}
	}
}

// What takes back what takes back does it again.
func TestBackOfBack(t *testing.T) {
	for _, l := range allRows(3) {
		wantChanges(t, undo.Back(undo.Back(l)), nil, undo.Again(l))
		wantChanges(t, undo.Again(undo.Again(l)), nil, undo.Again(l))
	}
}

// A session plays a Stack and its plain reading side by side, by numbers that it
// is given, on elements that it erases and restores as it is told.
type session struct {
	t     testing.TB
	below func(n int) int // a number from 0 to n - 1
	stack *undo.Stack
	plain *plainStack
	seen  counts
}

func newSession(t testing.TB, below func(n int) int) *session {
	return &session{t: t, below: below, stack: undo.New(), plain: &plainStack{}, seen: counts{}}
}

// change is mostly of a kind that is one.
func (s *session) change() api.Change {
	kind := 1 + s.below(3)
	if s.below(24) == 0 {
		kind = noKinds[s.below(len(noKinds))]
	}
	return api.Change{Kind: kind, ID: api.ID{Epoch: s.below(2), Replica: s.below(8), Number: s.below(4)}}
}

func (s *session) edit() []api.Change {
	l := make([]api.Change, 0, 6)
	for range s.below(5) {
		l = append(l, s.change())
	}
	return l
}

func (s *session) done() {
	l := s.edit()
	s.plain.did(l)
	s.stack.Done(l)
	s.seen.do(l)
	scrawl(l)
}

func (s *session) undo() {
	want, there := s.plain.undo()
	if !there {
		wantNoUndo(s.t, s.stack)
		return
	}
	l, err := s.stack.Undo()
	wantChanges(s.t, l, err, want)
	s.seen.do(l)
	scrawl(l)
}

func (s *session) redo() {
	want, there := s.plain.redo()
	if !there {
		wantNoRedo(s.t, s.stack)
		return
	}
	l, err := s.stack.Redo()
	wantChanges(s.t, l, err, want)
	s.seen.do(l)
	scrawl(l)
}

// thereAndBack is P14.5 and P14.6: one way and the other, as if neither had been.
func (s *session) thereAndBack() {
	first, second := s.stack.Undo, s.stack.Redo
	if s.below(2) == 0 {
		first, second = second, first
	}
	done, undone := s.stack.Edits()
	was := maps.Clone(s.seen)
	l, err := first()
	if err != nil {
		return
	}
	s.seen.do(l)
	scrawl(l)
	l, err = second()
	if err != nil {
		s.t.Errorf("no way back: %v", err)
	}
	s.seen.do(l)
	scrawl(l)
	wantEdits(s.t, s.stack, done, undone)
	if !s.seen.same(was) {
		s.t.Errorf("%v has become %v", was, s.seen)
	}
}

// reload goes on with a Stack of the same edits; some are spoilt first.
func (s *session) reload() {
	done, undone := s.stack.Edits()
	switch s.below(6) {
	case 0:
		done = append(done, s.edit())
	case 1:
		undone = append(undone, s.edit(), s.edit())
	case 2:
		undone = append(undone, inserts(1, s.below(64))...)
	}
	plain, at, why := plainLoad(done, undone)
	stack, err := undo.Load(done, undone)
	if why != nil {
		wantRefusal(s.t, err, "Load", at, why)
		if stack != nil {
			s.t.Errorf("Load answers %v beside %v", stack, err)
		}
		return
	}
	if err != nil || stack == nil {
		s.t.Fatalf("Load is %v, %v", stack, err)
	}
	scrawlAll(done)
	scrawlAll(undone)
	s.stack, s.plain = stack, plain
}

func (s *session) clear() {
	s.stack.Clear()
	s.plain.clear()
}

func (s *session) step() {
	switch n := s.below(64); {
	case n < 24:
		s.done()
	case n < 38:
		s.undo()
	case n < 50:
		s.redo()
	case n < 58:
		s.thereAndBack()
	case n < 62:
		s.reload()
	case n == 62 && s.below(4) == 0:
		s.clear()
	}
	s.check()
}

// check: each call tells what the plain reading tells.
func (s *session) check() {
	s.t.Helper()
	wantEdits(s.t, s.stack, s.plain.done, s.plain.undone)
	if len(s.plain.done)+len(s.plain.undone) > api.MaxUndo {
		s.t.Errorf("there are %d and %d", len(s.plain.done), len(s.plain.undone))
	}
	if n := len(s.plain.done); n > 0 {
		l, err := s.stack.Peek(false)
		wantChanges(s.t, l, err, plainBack(s.plain.done[n-1]))
		scrawl(l)
	}
	if n := len(s.plain.undone); n > 0 {
		l, err := s.stack.Peek(true)
		wantChanges(s.t, l, err, plainAgain(s.plain.undone[n-1]))
		scrawl(l)
	}
	done, undone := s.stack.Edits()
	scrawlAll(done)
	scrawlAll(undone)
}

// P14.1 to P14.6
func TestSessionsByTheWords(t *testing.T) {
	for seed := range int64(200) {
		s := newSession(t, rand.New(rand.NewSource(seed)).Intn)
		for range 200 {
			s.step()
		}
		if t.Failed() {
			t.Fatalf("the seed is %d", seed)
		}
	}
}

// P14.5, of each depth: all that was undone is redone, and the other way round.
func TestAllTheWayAndBack(t *testing.T) {
	for n := range api.MaxUndo + 1 {
		s := loaded(t, inserts(1, n), inserts(101, api.MaxUndo-n))
		seen := counts{}
		repeat := func(call func() ([]api.Change, error), times int) {
			for range times {
				l, err := call()
				if err != nil {
					t.Fatal(err)
				}
				seen.do(l)
			}
		}
		repeat(s.Undo, n)
		wantNoUndo(t, s)
		repeat(s.Redo, api.MaxUndo)
		wantNoRedo(t, s)
		repeat(s.Undo, api.MaxUndo-n)
		wantEdits(t, s, inserts(1, n), inserts(101, api.MaxUndo-n))
		if !seen.same(counts{}) {
			t.Errorf("with %d done ones there remain %v", n, seen)
		}
	}
}

func FuzzSession(f *testing.F) {
	f.Add([]byte{0, 2, 1, 1, 1, 1, 1, 30, 45, 0, 3})
	f.Add([]byte("some steps of a session, as they come"))
	f.Fuzz(func(t *testing.T, raw []byte) {
		s := newSession(t, func(n int) int {
			if len(raw) == 0 {
				return 0
			}
			x := int(raw[0])
			raw = raw[1:]
			return x % n
		})
		for len(raw) > 0 {
			s.step()
		}
	})
}
