package anchor_test

import (
	"slices"
	"testing"

	"barrow/anchor"
	"barrow/api"
	"barrow/model"
)

// What follows reads the chapter's sentences on a plain list of elements.

func plainLive(e api.Element) bool { return e.Hides <= 0 }

func plainWhere(l []api.Element, a api.Anchor) (int, bool) {
	if a.Front {
		return 0, true
	}
	live := 0
	for _, e := range l {
		if plainLive(e) {
			live++
		}
		if e.ID == a.ID {
			return live, true
		}
	}
	return 0, false
}

func plainAt(l []api.Element, p int) api.Anchor {
	for _, e := range l {
		if plainLive(e) {
			if p--; p == 0 {
				return api.Anchor{ID: e.ID}
			}
		}
	}
	return api.Anchor{Front: true}
}

func plainRebase(l []api.Element, a api.Anchor) (api.Anchor, bool) {
	i := slices.IndexFunc(l, func(e api.Element) bool { return e.ID == a.ID })
	if !a.Front && i < 0 {
		return api.Anchor{}, false
	}
	if a.Front {
		i = -1
	}
	for ; i >= 0; i-- {
		if plainLive(l[i]) {
			return api.Anchor{ID: l[i].ID}, true
		}
	}
	return api.Anchor{Front: true}, true
}

func plainSort(l []api.Element, anchors []api.Anchor) []api.Anchor {
	var sorted []api.Anchor
	for gap := range len(l) + 1 {
		for _, a := range anchors {
			if p, ok := plainWhere(l, a); ok && p == gap {
				sorted = append(sorted, a)
			}
		}
	}
	return sorted
}

// anchorsOf are one behind each element of a row, all kinds of Front, and some
// that have no element.
func anchorsOf(l []api.Element) []api.Anchor {
	all := []api.Anchor{{Front: true, ID: api.ID{Epoch: 77}}, {ID: api.ID{Epoch: 77}}, front()}
	for _, e := range l {
		all = append(all, api.Anchor{ID: e.ID}, api.Anchor{Front: true, ID: e.ID})
	}
	return append(all, api.Anchor{ID: api.ID{Replica: -1}})
}

// wantPlain holds all that the package tells of a model (P13.1 to P13.4, and
// Where(At(p)) of P13.5) against the list that it is of.
func wantPlain(t testing.TB, m *model.Model, l []api.Element) {
	t.Helper()
	for p := range m.Live() + 1 {
		a := plainAt(l, p)
		wantAt(t, m, p, a)
		wantWhere(t, m, a, p)
	}
	wantNoGap(t, m, m.Live()+1, api.ErrRange)
	wantNoGap(t, m, -1, api.ErrRange)
	for _, a := range anchorsOf(l) {
		if want, ok := plainWhere(l, a); ok {
			wantWhere(t, m, a, want)
			same, _ := plainRebase(l, a)
			wantRebased(t, m, a, same)
			wantWhere(t, m, same, want)
		} else {
			wantNowhere(t, m, a)
		}
	}
	wantSorted(t, m, anchorsOf(l), plainSort(l, anchorsOf(l))...)
}

// wantPairs holds what is asked of two anchors against the list.
func wantPairs(t testing.TB, m *model.Model, l []api.Element) {
	t.Helper()
	all := anchorsOf(l)
	for _, a := range all {
		p, pok := plainWhere(l, a)
		for _, b := range all {
			q, qok := plainWhere(l, b)
			if pok && qok {
				wantSpan(t, m, a, b, min(p, q), max(p, q))
			} else {
				wantNoSpan(t, m, a, b)
			}
			wantSame(t, m, a, b, pok && qok && p == q)
		}
	}
}

// Every row of up to seven elements that are live or erased.
func TestAllShortRows(t *testing.T) {
	for size := range 8 {
		for bits := range 1 << size {
			var l []api.Element
			for i := range size {
				l = append(l, api.Element{ID: id(i), Char: '\n', Hides: bits >> i & 1})
			}
			m := made(t, l)
			wantPlain(t, m, l)
			wantPairs(t, m, l)
		}
	}
}

// Every list of up to five anchors of a row, unknown ones and twins among them.
func TestAllShortLists(t *testing.T) {
	m := of(t, "aBcD")
	row := m.Elements()
	kinds := []api.Anchor{front(), by(1), by(2), by(3), by(4), by(5)}
	for size := range 6 {
		lists := 1
		for range size {
			lists *= len(kinds)
		}
		for n := range lists {
			var l []api.Anchor
			for range size {
				l = append(l, kinds[n%len(kinds)])
				n /= len(kinds)
			}
			wantSorted(t, m, l, plainSort(row, l)...)
		}
	}
}

// A long row, with long runs of erased elements.
func TestLongRow(t *testing.T) {
	var l []api.Element
	gap := 0
	for i := range 20000 {
		l = append(l, api.Element{ID: id(i), Char: 'x', Hides: i / 700 % 2})
	}
	m := made(t, l)
	last := front()
	for i, e := range l {
		if plainLive(e) {
			gap, last = gap+1, by(i)
			wantAt(t, m, gap, last)
		}
		wantWhere(t, m, by(i), gap)
		wantRebased(t, m, by(i), last)
	}
	var back []api.Anchor
	for i := range l {
		back = append(back, by(len(l)-1-i))
	}
	sorted := anchor.Sort(m, back)
	if len(sorted) != len(l) {
		t.Fatalf("Sort answers %d", len(sorted))
	}
	want := 0
	for k, a := range sorted {
		p, _ := anchor.Where(m, a)
		// Of one gap the list's order is that of falling numbers.
		if p < want || k > 0 && p == want && a.ID.Number > sorted[k-1].ID.Number {
			t.Fatalf("Sort has %v at %d", a, k)
		}
		want = p
	}
}
