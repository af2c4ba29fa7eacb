package model_test

import (
	"testing"

	"barrow/api"
	"barrow/model"
)

// Each row of the chapter's table.
func TestRuns(t *testing.T) {
	t.Run("Of", func(t *testing.T) {
		m := of(t, "AbC")
		if m.Len() != 3 || m.Live() != 2 || m.View() != "AC" {
			t.Errorf("Len, Live, View are %d, %d, %q", m.Len(), m.Live(), m.View())
		}
	})
	t.Run("ViewOf", func(t *testing.T) {
		m := of(t, "AbC")
		for i, want := range []struct {
			p    int
			live bool
		}{{0, true}, {1, false}, {1, true}, {2, false}} {
			p, live, err := m.ViewOf(i)
			wantInt(t, "ViewOf", p, err, want.p)
			if live != want.live {
				t.Errorf("ViewOf(%d) says %v", i, live)
			}
		}
		_, _, err := m.ViewOf(4)
		wantRefusal(t, err, "ViewOf", 4, api.ErrRange)
	})
	t.Run("ModelOf", func(t *testing.T) {
		m := of(t, "AbC")
		for p, want := range []int{0, 2} {
			i, err := m.ModelOf(p)
			wantInt(t, "ModelOf", i, err, want)
		}
		i, err := m.ModelOf(2)
		wantNumberRefused(t, i, err, "ModelOf", 2)
	})
	t.Run("Place", func(t *testing.T) {
		m := of(t, "AbC")
		for p, want := range []int{0, 1, 3} {
			i, err := m.Place(p)
			wantInt(t, "Place", i, err, want)
		}
		for _, p := range []int{3, -1} {
			i, err := m.Place(p)
			wantNumberRefused(t, i, err, "Place", p)
		}
	})
	t.Run("Place among erased ones", func(t *testing.T) {
		m := of(t, "ab")
		i, err := m.Place(0)
		wantInt(t, "Place(0)", i, err, 0)
		i, err = m.Place(1)
		wantNumberRefused(t, i, err, "Place", 1)
		wantView(t, m, "")
	})
	t.Run("Slice", func(t *testing.T) {
		m := of(t, "AbC")
		for _, x := range []struct {
			p, n int
			want string
		}{{0, 2, "AC"}, {1, 1, "C"}, {2, 0, ""}} {
			if s, err := m.Slice(x.p, x.n); s != x.want || err != nil {
				t.Errorf("Slice(%d, %d) is %q, %v", x.p, x.n, s, err)
			}
		}
		_, err := m.Slice(1, 2)
		wantRefusal(t, err, "Slice", 1, api.ErrRange)
		_, err = m.Slice(0, -1)
		wantRefusal(t, err, "Slice", 0, api.ErrRange)
	})
	t.Run("Add", func(t *testing.T) {
		m := of(t, "AbC")
		wantDone(t, m.Add(1, -1))
		wantView(t, m, "ABC")
		wantDone(t, m.Add(1, -1))
		wantView(t, m, "ABC")
		if e, err := m.At(1); e.Hides != -1 || err != nil {
			t.Errorf("At(1) is %v, %v", e, err)
		}
	})
	t.Run("Add refuses", func(t *testing.T) {
		m := of(t, "AbC")
		wantRefusal(t, m.Add(0, 2), "Add", 0, api.ErrArg)
		wantRefusal(t, m.Add(3, 1), "Add", 3, api.ErrRange)
		wantRefusal(t, m.Add(9, 5), "Add", 9, api.ErrRange)
	})
	t.Run("Insert refuses", func(t *testing.T) {
		m := of(t, "AbC")
		wantRefusal(t, m.Insert(4, api.Element{ID: id(4), Char: 'D'}), "Insert", 4, api.ErrRange)
		wantRefusal(t, m.Insert(1, api.Element{ID: id(4), Char: 0xD800}), "Insert", 1, api.ErrText)
		wantRefusal(t, m.Insert(1, api.Element{ID: id(2), Char: 'D'}), "Insert", 1, api.ErrTwice)
	})
	t.Run("Of refuses", func(t *testing.T) {
		_, err := model.Of([]api.Element{{ID: id(1)}, {ID: id(2)}, {ID: id(1)}})
		wantRefusal(t, err, "Of", 2, api.ErrTwice)
	})
	t.Run("Purge", func(t *testing.T) {
		m := of(t, "AbC")
		if got := m.Purge(); got != 1 {
			t.Errorf("Purge is %d", got)
		}
		if i, ok := m.Index(id(2)); i != 0 || ok {
			t.Errorf("Index of what went is %d, %v", i, ok)
		}
		if i, ok := m.Index(id(3)); i != 1 || !ok {
			t.Errorf("Index of what stayed is %d, %v", i, ok)
		}
	})
	t.Run("LineEnd", func(t *testing.T) {
		l := written("X\ny\nZ")
		l[3].Hides = 1
		m := made(t, l)
		if m.Lines() != 1 {
			t.Errorf("Lines is %d", m.Lines())
		}
		p, err := m.LineEnd(0)
		wantInt(t, "LineEnd(0)", p, err, 1)
		p, err = m.LineEnd(1)
		wantNumberRefused(t, p, err, "LineEnd", 1)
	})
}

func TestExamples(t *testing.T) {
	for c, why := range map[rune]error{0x10FFFF: nil, 0x110000: api.ErrText, -1: api.ErrText, 0: nil} {
		_, err := model.Of([]api.Element{{Char: c}})
		if why == nil {
			wantDone(t, err)
		} else {
			wantRefusal(t, err, "Of", 0, why)
		}
	}
	none := made(t, nil)
	wantElements(t, none, model.New().Elements())
	wantView(t, none, model.New().View())
	wantDone(t, none.Insert(0, api.Element{ID: id(1), Char: 'A'}))
	wantView(t, none, "A")

	m := made(t, []api.Element{{ID: id(1), Char: 'é'}, {ID: id(2), Char: '世'}})
	if len(m.View()) != 5 || m.Live() != 2 {
		t.Errorf("the view has %d bytes, Live is %d", len(m.View()), m.Live())
	}
}
