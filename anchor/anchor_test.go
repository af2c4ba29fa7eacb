package anchor_test

import (
	"errors"
	"math"
	"slices"
	"testing"

	"barrow/anchor"
	"barrow/api"
	"barrow/fault"
	"barrow/model"
)

const (
	most  = math.MaxInt
	least = math.MinInt
)

func id(n int) api.ID { return api.ID{Number: n} }

// front is the anchor ahead of all, by the one behind the n-th element.
func front() api.Anchor { return api.Anchor{Front: true} }

func by(n int) api.Anchor { return api.Anchor{ID: id(n)} }

// frontWith has an ID that is not to be looked at.
func frontWith(n int) api.Anchor { return api.Anchor{Front: true, ID: id(n)} }

func made(t testing.TB, l []api.Element) *model.Model {
	t.Helper()
	m, err := model.Of(l)
	if err != nil {
		t.Fatalf("Of answers %v", err)
	}
	return m
}

// of is a model as chapter 5 writes them: capitals are live, small letters
// erased, the IDs are 1, 2 ..
func of(t testing.TB, text string) *model.Model {
	t.Helper()
	var l []api.Element
	for i, c := range text {
		e := api.Element{ID: id(i + 1), Char: c}
		if c >= 'a' {
			e.Hides = 1
		}
		l = append(l, e)
	}
	return made(t, l)
}

func wantDone(t testing.TB, err error) {
	t.Helper()
	if err != nil {
		t.Fatalf("refused: %v", err)
	}
}

func wantAt(t testing.TB, m *model.Model, p int, want api.Anchor) {
	t.Helper()
	if a, err := anchor.At(m, p); a != want || err != nil {
		t.Errorf("At(%d) is %v, %v, not %v", p, a, err, want)
	}
}

// wantNoGap: At refuses that gap, and answers nothing beside.
func wantNoGap(t testing.TB, m *model.Model, p int, why error) {
	t.Helper()
	a, err := anchor.At(m, p)
	f, ok := err.(*fault.Fault)
	if !ok || *f != (fault.Fault{Layer: "anchor", Call: "At", At: max(p, -1), Why: why}) {
		t.Errorf("the error of At(%d) is %v, not: %v", p, err, why)
	}
	if !errors.Is(err, why) || a != (api.Anchor{}) {
		t.Errorf("At(%d) is %v, %v", p, a, err)
	}
}

func wantWhere(t testing.TB, m *model.Model, a api.Anchor, want int) {
	t.Helper()
	if p, ok := anchor.Where(m, a); p != want || !ok {
		t.Errorf("Where of %v is %d, %v, not %d", a, p, ok, want)
	}
}

func wantRebased(t testing.TB, m *model.Model, a, want api.Anchor) {
	t.Helper()
	if got, ok := anchor.Rebase(m, a); got != want || !ok {
		t.Errorf("Rebase of %v is %v, %v, not %v", a, got, ok, want)
	}
}

// wantNowhere: that anchor has no gap, for any call.
func wantNowhere(t testing.TB, m *model.Model, a api.Anchor) {
	t.Helper()
	if p, ok := anchor.Where(m, a); p != 0 || ok {
		t.Errorf("Where of %v is %d, %v", a, p, ok)
	}
	if got, ok := anchor.Rebase(m, a); got != (api.Anchor{}) || ok {
		t.Errorf("Rebase of %v is %v, %v", a, got, ok)
	}
	for _, pair := range [][2]api.Anchor{{a, front()}, {front(), a}, {a, a}} {
		wantNoSpan(t, m, pair[0], pair[1])
		wantSame(t, m, pair[0], pair[1], false)
	}
	if got := anchor.Sort(m, []api.Anchor{a, a}); len(got) != 0 {
		t.Errorf("Sort of %v is %v", a, got)
	}
}

func wantSpan(t testing.TB, m *model.Model, a, b api.Anchor, from, to int) {
	t.Helper()
	for _, pair := range [][2]api.Anchor{{a, b}, {b, a}} {
		if f, e, ok := anchor.Span(m, pair[0], pair[1]); f != from || e != to || !ok {
			t.Errorf("Span of %v is %d %d, %v, not %d %d", pair, f, e, ok, from, to)
		}
	}
}

func wantNoSpan(t testing.TB, m *model.Model, a, b api.Anchor) {
	t.Helper()
	if from, to, ok := anchor.Span(m, a, b); from != 0 || to != 0 || ok {
		t.Errorf("Span of %v and %v is %d %d, %v", a, b, from, to, ok)
	}
}

func wantSame(t testing.TB, m *model.Model, a, b api.Anchor, want bool) {
	t.Helper()
	if anchor.Same(m, a, b) != want || anchor.Same(m, b, a) != want {
		t.Errorf("Same of %v and %v is not %v, either way round", a, b, want)
	}
}

func wantSorted(t testing.TB, m *model.Model, l []api.Anchor, want ...api.Anchor) {
	t.Helper()
	if got := anchor.Sort(m, l); !slices.Equal(got, want) {
		t.Errorf("Sort of %v is %v, not %v", l, got, want)
	}
}

// P13.1: the live element ahead of each gap, whatever is erased about it.
func TestAt(t *testing.T) {
	for text, want := range map[string][]api.Anchor{
		"":       {front()},
		"a":      {front()},
		"abc":    {front()},
		"A":      {front(), by(1)},
		"aB":     {front(), by(2)},
		"Ab":     {front(), by(1)},
		"ABC":    {front(), by(1), by(2), by(3)},
		"abCdeF": {front(), by(3), by(6)},
		"AbcdEf": {front(), by(1), by(5)},
	} {
		m := of(t, text)
		for p, a := range want {
			wantAt(t, m, p, a)
		}
		n := len(want)
		for _, p := range []int{n, n + 1, -1, -2, most, most - 1, least, least + 1} {
			wantNoGap(t, m, p, api.ErrRange)
		}
	}
}

// No model is refused for itself, ahead of what is out of range; nothing has a
// gap in it, Front neither.
func TestNoModel(t *testing.T) {
	for _, p := range []int{0, 1, 7, -1, -2, most, least} {
		wantNoGap(t, nil, p, api.ErrArg)
	}
	for _, a := range []api.Anchor{{}, front(), frontWith(1), by(1)} {
		wantNowhere(t, nil, a)
	}
}

// P13.2: how many live ones stand up to the element.
func TestWhere(t *testing.T) {
	for text, want := range map[string][]int{
		"":       {},
		"a":      {0},
		"A":      {1},
		"abc":    {0, 0, 0},
		"ABC":    {1, 2, 3},
		"aB":     {0, 1},
		"AbcdEf": {1, 1, 1, 1, 2, 2},
		"abCdeF": {0, 0, 1, 1, 1, 2},
	} {
		m := of(t, text)
		wantWhere(t, m, front(), 0)
		for i, p := range want {
			wantWhere(t, m, by(i+1), p)
		}
		wantNowhere(t, m, by(len(want)+1))
	}
}

// An ID is known as a whole only: each of its numbers counts.
func TestUnknownIDs(t *testing.T) {
	m := made(t, []api.Element{{ID: api.ID{Epoch: 1, Replica: 2, Number: 3}, Char: 'A'}})
	wantWhere(t, m, api.Anchor{ID: api.ID{Epoch: 1, Replica: 2, Number: 3}}, 1)
	for _, other := range []api.ID{
		{}, {Epoch: 0, Replica: 2, Number: 3}, {Epoch: 1, Replica: 1, Number: 3}, {Epoch: 1, Replica: 2, Number: 4},
		{Epoch: 3, Replica: 2, Number: 1}, {Epoch: -1, Replica: -2, Number: -3}, {Epoch: most, Replica: most, Number: most}, {Epoch: least, Replica: least, Number: least},
	} {
		wantNowhere(t, m, api.Anchor{ID: other})
	}
}

// The zero Anchor is no Front: it names the element with the zero ID.
func TestZeroAnchor(t *testing.T) {
	wantNowhere(t, of(t, "AB"), api.Anchor{})
	wantNowhere(t, of(t, ""), api.Anchor{})
	m := made(t, []api.Element{{ID: id(1), Char: 'A'}, {Char: 'B'}, {ID: id(2), Char: 'c', Hides: 1}})
	wantWhere(t, m, api.Anchor{}, 2)
	wantAt(t, m, 2, api.Anchor{})
	wantRebased(t, m, by(2), api.Anchor{})
	wantSpan(t, m, api.Anchor{}, by(1), 1, 2)
	wantSame(t, m, api.Anchor{}, by(2), true)
	wantSorted(t, m, []api.Anchor{{}, by(1)}, by(1), api.Anchor{})
}

// IDs may be of any numbers.
func TestOddIDs(t *testing.T) {
	low, high := api.ID{Epoch: least, Replica: -1, Number: most}, api.ID{Epoch: most, Replica: 99, Number: least}
	m := made(t, []api.Element{{ID: high, Char: 'A'}, {ID: low, Char: 'B'}})
	wantAt(t, m, 1, api.Anchor{ID: high})
	wantAt(t, m, 2, api.Anchor{ID: low})
	wantWhere(t, m, api.Anchor{ID: low}, 2)
	wantSorted(t, m, []api.Anchor{{ID: low}, {ID: high}}, api.Anchor{ID: high}, api.Anchor{ID: low})
}

// With Front the ID is not looked at, be it known, erased or unknown. Rebase's
// Front has none; Sort tells what it was handed as it is.
func TestFrontWithAnID(t *testing.T) {
	m := of(t, "AbC")
	for _, n := range []int{1, 2, 3, 9, -1} {
		a := frontWith(n)
		wantWhere(t, m, a, 0)
		wantRebased(t, m, a, front())
		wantSpan(t, m, a, by(3), 0, 2)
		wantSpan(t, m, a, front(), 0, 0)
		wantSame(t, m, a, front(), true)
		wantSame(t, m, a, frontWith(4), true)
		wantSame(t, m, a, by(1), false)
		wantSorted(t, m, []api.Anchor{by(1), a, front()}, a, front(), by(1))
	}
	wantWhere(t, of(t, ""), frontWith(1), 0)
	wantSame(t, of(t, "ab"), frontWith(7), by(2), true)
}

// A Hides of 0 or less is live, however far from it.
func TestHides(t *testing.T) {
	var l []api.Element
	for i, hides := range []int{0, 1, -1, 2, -5, 1 << 40, -1 << 40} {
		l = append(l, api.Element{ID: id(i + 1), Char: 'x', Hides: hides})
	}
	m := made(t, l)
	for i, p := range []int{1, 1, 2, 2, 3, 3, 4} {
		wantWhere(t, m, by(i+1), p)
	}
	for i, n := range []int{1, 1, 3, 3, 5, 5, 7} {
		wantRebased(t, m, by(i+1), by(n))
	}
	for p, n := range []int{1, 3, 5, 7} {
		wantAt(t, m, p+1, by(n))
	}
	wantNoGap(t, m, 5, api.ErrRange)
}

// P13.3: the element itself, or the nearest live one ahead, or Front.
func TestRebase(t *testing.T) {
	for text, want := range map[string][]api.Anchor{
		"a":      {front()},
		"abc":    {front(), front(), front()},
		"A":      {by(1)},
		"aB":     {front(), by(2)},
		"AbcdEf": {by(1), by(1), by(1), by(1), by(5), by(5)},
		"abCdeF": {front(), front(), by(3), by(3), by(3), by(6)},
	} {
		m := of(t, text)
		wantRebased(t, m, front(), front())
		for i, a := range want {
			wantRebased(t, m, by(i+1), a)
			wantRebased(t, m, a, a)
		}
		wantNowhere(t, m, by(len(want)+1))
	}
}

// P13.4: both ends must be there, and either one may come first.
func TestSpan(t *testing.T) {
	m := of(t, "aBcDEf")
	wantSpan(t, m, by(2), by(5), 1, 3)
	wantSpan(t, m, by(1), by(6), 0, 3)
	wantSpan(t, m, front(), by(4), 0, 2)
	wantSpan(t, m, front(), front(), 0, 0)
	wantSpan(t, m, by(3), by(2), 1, 1)
	wantSpan(t, m, by(4), by(4), 2, 2)
	for _, a := range []api.Anchor{front(), by(1), by(5), by(7)} {
		wantNoSpan(t, m, a, by(8))
		wantNoSpan(t, m, by(8), a)
	}
}

// P13.4: one gap may have many anchors.
func TestSame(t *testing.T) {
	m := of(t, "aBcDEf")
	gaps := [][]api.Anchor{{front(), by(1), frontWith(2)}, {by(2), by(3)}, {by(4)}, {by(5), by(6)}}
	for p, those := range gaps {
		for _, a := range those {
			wantSame(t, m, a, a, true)
			wantSame(t, m, a, by(9), false)
			for q, others := range gaps {
				for _, b := range others {
					wantSame(t, m, a, b, p == q)
				}
			}
		}
	}
	wantSame(t, m, by(9), by(9), false)
	wantSame(t, m, by(8), by(9), false)
}

// P13.4: of one gap in the list's order, each as often as it is there.
func TestSort(t *testing.T) {
	m := of(t, "aBcD")
	wantSorted(t, m, nil)
	wantSorted(t, m, []api.Anchor{})
	wantSorted(t, m, []api.Anchor{by(5), by(0), by(-1)})
	wantSorted(t, m, []api.Anchor{by(4)}, by(4))
	wantSorted(t, m, []api.Anchor{by(4), by(2), by(4), by(2)}, by(2), by(2), by(4), by(4))
	wantSorted(t, m, []api.Anchor{by(3), by(2), by(3)}, by(3), by(2), by(3))
	wantSorted(t, m, []api.Anchor{by(2), by(3), by(2)}, by(2), by(3), by(2))
	wantSorted(t, m, []api.Anchor{by(1), front(), frontWith(4), by(1)}, by(1), front(), frontWith(4), by(1))
	wantSorted(t, m, []api.Anchor{frontWith(4), by(4), by(9), by(1), front()}, frontWith(4), by(1), front(), by(4))
}

// The order of a long list stays too, where a short one's might by chance.
func TestSortLong(t *testing.T) {
	m := of(t, "AbcdefghijklmnopqrstuvwxyZ")
	var l, low, high []api.Anchor
	for k := range 500 {
		a := by((k*7)%30 + 1) // 27 to 30 are unknown
		l = append(l, a)
		switch {
		case a == by(26):
			high = append(high, a)
		case a.ID.Number < 26:
			low = append(low, a)
		}
	}
	wantSorted(t, m, l, slices.Concat(low, high)...)
}
