package anchor_test

import (
	"math/rand"
	"slices"
	"testing"

	"barrow/anchor"
	"barrow/api"
	"barrow/model"
)

// wheres are the gaps of the anchors behind all elements of a row.
func wheres(t testing.TB, m *model.Model, l []api.Element) []int {
	t.Helper()
	gaps := make([]int, len(l))
	for i, e := range l {
		p, ok := anchor.Where(m, api.Anchor{ID: e.ID})
		if !ok {
			t.Fatalf("no Where of %v", e)
		}
		gaps[i] = p
	}
	return gaps
}

// wantMoved is P13.5: from the i-th element on anchors have moved by that, and
// those ahead of it, Front among them, have not.
func wantMoved(t testing.TB, m *model.Model, l []api.Element, was []int, i, by int) {
	t.Helper()
	wantWhere(t, m, front(), 0)
	for k, p := range was {
		if k >= i {
			p += by
		}
		wantWhere(t, m, api.Anchor{ID: l[k].ID}, p)
	}
}

// insert lays an element at a model index, and says what moves.
func insert(t testing.TB, m *model.Model, i int, e api.Element) {
	t.Helper()
	l := m.Elements()
	was := wheres(t, m, l)
	wantDone(t, m.Insert(i, e))
	moved := 0
	if e.Hides <= 0 {
		moved = 1
	}
	wantMoved(t, m, l, was, i, moved)
}

// insertAt lays a live one at a gap of the view: what stood there stays.
func insertAt(t testing.TB, m *model.Model, p int, e api.Element) {
	t.Helper()
	a, err := anchor.At(m, p)
	wantDone(t, err)
	i, err := m.Place(p)
	wantDone(t, err)
	insert(t, m, i, e)
	wantWhere(t, m, a, p)
	wantAt(t, m, p, a)
	wantAt(t, m, p+1, api.Anchor{ID: e.ID})
}

// add hides or shows an element, or changes nothing that is seen.
func add(t testing.TB, m *model.Model, i, by int) {
	t.Helper()
	l := m.Elements()
	was := wheres(t, m, l)
	wantDone(t, m.Add(i, by))
	moved := 0
	switch {
	case by == 1 && l[i].Hides == 0:
		moved = -1
	case by == -1 && l[i].Hides == 1:
		moved = 1
	}
	wantMoved(t, m, l, was, i, moved)
}

// purge is P13.6: rebased anchors stay where they were, others are gone with
// their elements.
func purge(t testing.TB, m *model.Model) {
	t.Helper()
	l := m.Elements()
	was := wheres(t, m, l)
	rebased := make([]api.Anchor, len(l))
	for i, e := range l {
		rebased[i], _ = anchor.Rebase(m, api.Anchor{ID: e.ID})
	}
	m.Purge()
	for i, e := range l {
		wantWhere(t, m, rebased[i], was[i])
		wantRebased(t, m, rebased[i], rebased[i])
		if e.Hides > 0 {
			wantNowhere(t, m, api.Anchor{ID: e.ID})
		} else {
			wantWhere(t, m, api.Anchor{ID: e.ID}, was[i])
		}
	}
	wantWhere(t, m, front(), 0)
}

// play does to a model what the bytes say, three a step.
func play(t testing.TB, raw []byte) {
	m := model.New()
	for len(raw) >= 3 {
		kind, a, b := int(raw[0]), int(raw[1]), int(raw[2])
		at := a * (m.Len() + 1) / 256
		raw = raw[3:]
		e := api.Element{ID: api.ID{Epoch: len(raw), Replica: a % 3, Number: b}, Char: rune('a' + b%26), Hides: b%5 - 2}
		switch {
		case kind%16 == 15:
			purge(t, m)
		case kind%16 > 8 && at < m.Len():
			add(t, m, at, 1-b%2*2)
		case kind%16 > 4:
			insert(t, m, at, e)
		default:
			e.Hides = 0
			insertAt(t, m, a*(m.Live()+1)/256, e)
		}
		wantPlain(t, m, m.Elements())
	}
	wantPairs(t, m, m.Elements())
}

// P13.5, P13.6, of rows that any steps lead to.
func TestLaws(t *testing.T) {
	for seed := range 120 {
		rnd := rand.New(rand.NewSource(int64(seed)))
		raw := make([]byte, 3*(1+rnd.Intn(40)))
		rnd.Read(raw)
		play(t, raw)
	}
}

// P13.5: an Insert ahead of all, directly ahead, directly behind, and behind.
func TestInsertMoves(t *testing.T) {
	for i, want := range []int{3, 3, 3, 2, 2} {
		m := of(t, "AbCd")
		wantDone(t, m.Insert(i, api.Element{ID: id(9), Char: 'X'}))
		wantWhere(t, m, by(3), want)
		wantWhere(t, m, front(), 0)
		m = of(t, "AbCd")
		wantDone(t, m.Insert(i, api.Element{ID: id(9), Char: 'x', Hides: 1}))
		wantWhere(t, m, by(3), 2)
	}
}

// P13.5: what is hidden and shown ahead, itself, and behind.
func TestHiddenAndShown(t *testing.T) {
	m := of(t, "ABC")
	for _, x := range []struct{ i, by, want int }{
		{0, 1, 1}, {0, 1, 1}, {0, -1, 1}, {0, -1, 2}, {0, -1, 2}, {0, 1, 2},
		{1, 1, 1}, {1, 1, 1}, {0, 1, 0}, {1, -1, 0}, {1, -1, 1}, {0, -1, 2},
		{2, 1, 2}, {2, -1, 2},
	} {
		wantDone(t, m.Add(x.i, x.by))
		wantWhere(t, m, by(2), x.want)
	}
}

// P13.6, of every anchor of every row of up to seven elements.
func TestPurgedRows(t *testing.T) {
	for size := range 8 {
		for bits := range 1 << size {
			var l []api.Element
			for i := range size {
				l = append(l, api.Element{ID: id(i), Char: 'x', Hides: bits >> i & 1})
			}
			purge(t, made(t, l))
		}
	}
}

// A Sort rises, and tells just those that have a Where.
func TestSortLaws(t *testing.T) {
	for seed := range 60 {
		rnd := rand.New(rand.NewSource(int64(seed)))
		var row []api.Element
		for i := range 1 + rnd.Intn(20) {
			row = append(row, api.Element{ID: id(i), Char: 'x', Hides: rnd.Intn(3) - 1})
		}
		var l []api.Anchor
		for range rnd.Intn(90) {
			l = append(l, api.Anchor{Front: rnd.Intn(9) == 0, ID: id(rnd.Intn(25))})
		}
		m := made(t, row)
		wantSorted(t, m, l, plainSort(row, l)...)
		once := anchor.Sort(m, l)
		if again := anchor.Sort(m, once); !slices.Equal(again, once) {
			t.Errorf("sorted again %v is %v", once, again)
		}
	}
}

func FuzzAnchor(f *testing.F) {
	f.Add([]byte{0, 0, 1, 0, 255, 0, 9, 0, 0, 15, 0, 0, 0, 0, 0})
	f.Add([]byte{1, 0, 1, 5, 0, 2, 5, 0, 3, 1, 0, 4, 10, 128, 0, 10, 0, 0, 15, 0, 0, 2, 255, 9})
	f.Fuzz(func(t *testing.T, raw []byte) { play(t, raw[:min(len(raw), 90)]) })
}
