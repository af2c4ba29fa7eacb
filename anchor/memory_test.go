package anchor_test

import (
	"slices"
	"testing"

	"barrow/anchor"
	"barrow/api"
	"barrow/model"
)

// R2: what is handed in is neither changed nor kept, its spare room included.
func TestSortLeavesItsList(t *testing.T) {
	m := of(t, "AbC")
	l := append(make([]api.Anchor, 0, 9), by(3), by(9), by(2), front(), by(1))
	spare := l[:cap(l)]
	was := slices.Clone(spare)
	got := anchor.Sort(m, l)
	if !slices.Equal(spare, was) {
		t.Errorf("the list is %v, was %v", spare, was)
	}
	for i := range spare {
		spare[i] = by(66)
	}
	if !slices.Equal(got, []api.Anchor{front(), by(2), by(1), by(3)}) {
		t.Errorf("the answer has become %v", got)
	}
}

// R2: each answer is the caller's own, also where nothing is to be sorted.
func TestSortedIsTheCallersOwn(t *testing.T) {
	m := of(t, "AbC")
	l := []api.Anchor{front(), by(1), by(3)}
	one, two := anchor.Sort(m, l), anchor.Sort(m, l)
	one = one[:cap(one)]
	for i := range one {
		one[i] = by(66)
	}
	want := []api.Anchor{front(), by(1), by(3)}
	if !slices.Equal(l, want) || !slices.Equal(two, want) {
		t.Errorf("the list is %v, the other answer %v", l, two)
	}
}

func askAll(m *model.Model) {
	l := anchorsOf(m.Elements())
	for p := -1; p <= m.Live()+1; p++ {
		anchor.At(m, p)
	}
	for _, a := range l {
		anchor.Where(m, a)
		anchor.Rebase(m, a)
		for _, b := range l {
			anchor.Span(m, a, b)
			anchor.Same(m, a, b)
		}
	}
	anchor.Sort(m, l)
}

// No call changes the model that it is asked of, nor keeps anything of it: the
// answers follow what is done to it.
func TestModelStays(t *testing.T) {
	m := of(t, "aBcDe")
	was := m.Elements()
	askAll(m)
	if !slices.Equal(m.Elements(), was) {
		t.Errorf("the elements are %v, were %v", m.Elements(), was)
	}
	wantDone(t, m.Add(0, -1))
	wantPlain(t, m, m.Elements())
	wantDone(t, m.Insert(2, api.Element{ID: id(8), Char: 'X'}))
	wantPlain(t, m, m.Elements())
	m.Purge()
	wantPlain(t, m, m.Elements())
}

// R4: models know nothing of each other, though they have the same IDs.
func TestModelsAreApart(t *testing.T) {
	one, two := of(t, "ABC"), of(t, "abC")
	wantWhere(t, one, by(3), 3)
	wantWhere(t, two, by(3), 1)
	wantRebased(t, two, by(2), front())
	wantRebased(t, one, by(2), by(2))
	copied := one.Copy()
	wantDone(t, one.Add(0, 1))
	wantWhere(t, one, by(3), 2)
	wantWhere(t, copied, by(3), 3)
}
