package model_test

import (
	"math"
	"slices"
	"testing"
	"unicode/utf8"

	"barrow/api"
	"barrow/fault"
	"barrow/model"
)

const (
	most  = math.MaxInt
	least = math.MinInt
	brink = 1 << 40 // the greatest Hides
)

func id(number int) api.ID { return api.ID{Number: number} }

// written are elements by their Chars: small letters stand for erased ones
// (Hides 1), all else is live; their IDs are {0 0 1}, {0 0 2} and so on.
func written(text string) []api.Element {
	var l []api.Element
	for _, c := range text {
		e := api.Element{ID: id(len(l) + 1), Char: c}
		if 'a' <= c && c <= 'z' {
			e.Char, e.Hides = c-'a'+'A', 1
		}
		l = append(l, e)
	}
	return l
}

func made(t testing.TB, l []api.Element) *model.Model {
	t.Helper()
	m, err := model.Of(l)
	if err != nil || m == nil {
		t.Fatalf("Of answers %v, %v", m, err)
	}
	return m
}

func of(t testing.TB, text string) *model.Model {
	t.Helper()
	return made(t, written(text))
}

func wantRefusal(t testing.TB, err error, call string, at int, why error) {
	t.Helper()
	f, ok := err.(*fault.Fault)
	if !ok || *f != (fault.Fault{Layer: "model", Call: call, At: max(at, -1), Why: why}) {
		t.Errorf("the error is %v, not model.%s at %d: %v", err, call, at, why)
	}
}

func wantDone(t testing.TB, err error) {
	t.Helper()
	if err != nil {
		t.Errorf("refused: %v", err)
	}
}

func wantInt(t testing.TB, what string, got int, err error, want int) {
	t.Helper()
	if got != want || err != nil {
		t.Errorf("%s is %d, %v, not %d", what, got, err, want)
	}
}

// wantNumberRefused is for calls that answer a number, which must be 0 then.
func wantNumberRefused(t testing.TB, got int, err error, call string, at int) {
	t.Helper()
	wantRefusal(t, err, call, at, api.ErrRange)
	if got != 0 {
		t.Errorf("%s(%d) answers %d beside its refusal", call, at, got)
	}
}

func told(m *model.Model) []api.Element {
	var l []api.Element
	for e := range m.All() {
		l = append(l, e)
	}
	return l
}

func wantElements(t testing.TB, m *model.Model, want []api.Element) {
	t.Helper()
	if got := m.Elements(); !slices.Equal(got, want) {
		t.Errorf("the elements are %v, not %v", got, want)
	}
	if got := told(m); !slices.Equal(got, want) {
		t.Errorf("All tells %v, not %v", got, want)
	}
	if m.Len() != len(want) {
		t.Errorf("Len is %d, not %d", m.Len(), len(want))
	}
}

func wantView(t testing.TB, m *model.Model, want string) {
	t.Helper()
	if got := m.View(); got != want {
		t.Errorf("the view is %q, not %q", got, want)
	}
	if m.Live() != utf8.RuneCountInString(want) {
		t.Errorf("Live is %d, the view is %q", m.Live(), want)
	}
}

func rightChars() []rune {
	return []rune{0, 1, 10, 127, 128, 0xD7FF, 0xE000, 0xFFFD, 0xFFFF, 0x10000, api.MaxChar}
}

func wrongChars() []rune {
	return []rune{-1, math.MinInt32, 0xD800, 0xDBFF, 0xDC00, 0xDFFF, api.MaxChar + 1, math.MaxInt32}
}

func rightHides() []int { return []int{0, 1, -1, 2, brink - 1, brink, -brink + 1, -brink} }

func wrongHides() []int { return []int{brink + 1, -brink - 1, 1 << 41, most, least} }

// P5.1

func TestNew(t *testing.T) {
	m := model.New()
	wantElements(t, m, nil)
	wantView(t, m, "")
	if m.Lines() != 0 {
		t.Errorf("Lines is %d", m.Lines())
	}
	other := model.New()
	wantDone(t, m.Insert(0, api.Element{ID: id(1), Char: 'A'}))
	wantElements(t, other, nil)
}

func TestOf(t *testing.T) {
	wantElements(t, made(t, nil), nil)
	wantElements(t, made(t, []api.Element{}), nil)
	l := written("AbC\nd")
	wantElements(t, made(t, l), l)
	wantView(t, made(t, l), "AC\n")
}

func TestOfTakesWhatIsRight(t *testing.T) {
	var l []api.Element
	for _, c := range rightChars() {
		for _, hides := range rightHides() {
			l = append(l, api.Element{ID: id(len(l)), Char: c, Hides: hides})
		}
	}
	wantElements(t, made(t, l), l)
}

func TestOfTakesAnyIDs(t *testing.T) {
	var l []api.Element
	numbers := []int{0, 1, -1, most, least}
	for _, epoch := range numbers {
		for _, replica := range numbers {
			for _, number := range numbers {
				l = append(l, api.Element{ID: api.ID{Epoch: epoch, Replica: replica, Number: number}})
			}
		}
	}
	m := made(t, l)
	wantElements(t, m, l)
	for i, e := range l {
		if got, ok := m.Index(e.ID); got != i || !ok {
			t.Errorf("Index(%v) is %d, %v, not %d", e.ID, got, ok, i)
		}
	}
}

func wantOfRefused(t *testing.T, l []api.Element, at int, why error) {
	t.Helper()
	kept := slices.Clone(l)
	m, err := model.Of(l)
	wantRefusal(t, err, "Of", at, why)
	if m != nil {
		t.Errorf("Of answers a model beside its refusal")
	}
	if !slices.Equal(l, kept) {
		t.Errorf("Of has changed %v to %v", kept, l)
	}
}

func TestOfRefuses(t *testing.T) {
	for at := range 4 {
		for _, c := range wrongChars() {
			l := written("AbCd")
			l[at].Char = c
			wantOfRefused(t, l, at, api.ErrText)
		}
		for _, hides := range wrongHides() {
			l := written("AbCd")
			l[at].Hides = hides
			wantOfRefused(t, l, at, api.ErrArg)
		}
		for ahead := range at {
			l := written("AbCd")
			l[at].ID = l[ahead].ID
			wantOfRefused(t, l, at, api.ErrTwice)
		}
	}
}

func TestOfRefusesInOrder(t *testing.T) {
	// All that is wrong is wrong with one element.
	l := written("AB")
	l[1] = api.Element{ID: id(1), Char: -1, Hides: brink + 1}
	wantOfRefused(t, l, 1, api.ErrText)
	l[1].Char = 'B'
	wantOfRefused(t, l, 1, api.ErrArg)
	l[1].Hides = brink
	wantOfRefused(t, l, 1, api.ErrTwice)
	// The first element that is wrong, whatever is wrong with it.
	l = written("ABCD")
	l[1].ID, l[2].Hides, l[3].Char = id(1), most, -1
	wantOfRefused(t, l, 1, api.ErrTwice)
	l[1].ID = id(2)
	wantOfRefused(t, l, 2, api.ErrArg)
	l[2].Hides = 0
	wantOfRefused(t, l, 3, api.ErrText)
}

// R2: what is handed in is neither kept nor changed.
func TestOfKeepsNothing(t *testing.T) {
	for _, n := range []int{1, 3, 40, 200} {
		room := make([]api.Element, n+5)
		for i := range room {
			room[i] = api.Element{ID: id(i), Char: 'A'}
		}
		kept := slices.Clone(room)
		m := made(t, room[:n])
		wantDone(t, m.Insert(n, api.Element{ID: id(1000), Char: 'Z'}))
		wantDone(t, m.Add(0, 1))
		if !slices.Equal(room, kept) {
			t.Errorf("what was handed in, or its spare room, has changed")
		}
		clear(room)
		if e, err := m.At(n - 1); err != nil || e.ID != id(n-1) || e.Char != 'A' {
			t.Errorf("the model keeps what was handed in: %v, %v", e, err)
		}
	}
}

func TestCopy(t *testing.T) {
	l := written("AbC\nd")
	m := made(t, l)
	c := m.Copy()
	wantElements(t, c, l)
	wantView(t, c, "AC\n")

	wantDone(t, m.Insert(1, api.Element{ID: id(9), Char: 'X'}))
	wantDone(t, m.Add(0, 1))
	wantElements(t, c, l)
	if _, there := c.Index(id(9)); there {
		t.Errorf("the copy knows what the model has got")
	}
	m.Purge()
	wantElements(t, c, l)

	wantDone(t, c.Insert(0, api.Element{ID: id(8), Char: 'Y'}))
	wantDone(t, c.Insert(0, api.Element{ID: id(9), Char: 'Y'}))
	c.Purge()
	wantView(t, m, "XC\n")
	if _, there := m.Index(id(8)); there {
		t.Errorf("the model knows what the copy has got")
	}
	wantElements(t, model.New().Copy(), nil)
}

// P5.2

func TestCounts(t *testing.T) {
	m := made(t, []api.Element{
		{ID: id(1), Char: '\n', Hides: 1},
		{ID: id(2), Char: '\n', Hides: 0},
		{ID: id(3), Char: '\n', Hides: -3},
		{ID: id(4), Char: '\r', Hides: -1},
		{ID: id(5), Char: 0x2028, Hides: 0},
		{ID: id(6), Char: 'x', Hides: 2},
		{ID: id(7), Char: 'y', Hides: brink},
		{ID: id(8), Char: 'z', Hides: -brink},
	})
	if m.Len() != 8 || m.Live() != 5 || m.Lines() != 2 {
		t.Errorf("Len, Live, Lines are %d, %d, %d", m.Len(), m.Live(), m.Lines())
	}
}

func TestAt(t *testing.T) {
	l := written("AbC\nd")
	m := made(t, l)
	for i := range l {
		if e, err := m.At(i); e != l[i] || err != nil {
			t.Errorf("At(%d) is %v, %v", i, e, err)
		}
	}
	for _, i := range []int{-1, least, 5, 6, most} {
		e, err := m.At(i)
		wantRefusal(t, err, "At", i, api.ErrRange)
		if e != (api.Element{}) {
			t.Errorf("At(%d) answers %v beside its refusal", i, e)
		}
	}
	_, err := model.New().At(0)
	wantRefusal(t, err, "At", 0, api.ErrRange)
}

// R2: answers are new memory.
func TestElementsAreNew(t *testing.T) {
	l := written("AbC")
	m := made(t, l)
	one, two := m.Elements(), m.Elements()
	one[0].Char, one[1].ID = 'Q', id(77)
	_ = append(one[:1], api.Element{ID: id(78)})
	if !slices.Equal(two, l) {
		t.Errorf("two answers share memory")
	}
	two = append(two, api.Element{ID: id(79)})
	wantElements(t, m, l)
}

// All is of the row as it is when it is ranged over.
func TestAll(t *testing.T) {
	m := of(t, "AbC")
	all := m.All()
	wantDone(t, m.Insert(3, api.Element{ID: id(4), Char: 'D'}))
	wantDone(t, m.Add(0, 1))
	want := m.Elements()
	var seen []api.Element
	for e := range all {
		seen = append(seen, e)
		switch len(seen) {
		case 1:
			wantDone(t, m.Insert(1, api.Element{ID: id(5), Char: 'E'}))
			wantDone(t, m.Add(2, -1))
		case 2:
			m.Purge()
		}
	}
	if !slices.Equal(seen, want) {
		t.Errorf("a range has told %v, not %v", seen, want)
	}
	want = m.Elements()
	seen = nil
	for e := range all {
		seen = append(seen, e)
	}
	if !slices.Equal(seen, want) || len(want) != 4 {
		t.Errorf("a later range has told %v, not %v", seen, want)
	}
}

// R1: iterators may be ranged over many times, and stopped at any element.
func TestAllStops(t *testing.T) {
	l := written("AbCdEfG")
	m := made(t, l)
	all := m.All()
	for stop := range len(l) {
		var seen []api.Element
		for e := range all {
			seen = append(seen, e)
			if len(seen) == stop+1 {
				break
			}
		}
		if !slices.Equal(seen, l[:stop+1]) {
			t.Errorf("stopped behind %d, a range has told %v", stop, seen)
		}
	}
	for range all {
		for e := range all {
			if e != l[0] {
				t.Errorf("a range in a range begins with %v", e)
			}
			break
		}
	}
}

func TestIndex(t *testing.T) {
	m := made(t, []api.Element{
		{ID: api.ID{Epoch: 1}, Char: 'a'},
		{ID: api.ID{Replica: 1}, Char: 'b', Hides: 3},
		{ID: api.ID{Number: 1}, Char: 'c'},
	})
	for i, known := range []api.ID{{Epoch: 1}, {Replica: 1}, {Number: 1}} {
		if got, ok := m.Index(known); got != i || !ok {
			t.Errorf("Index(%v) is %d, %v, not %d", known, got, ok, i)
		}
	}
	for _, unknown := range []api.ID{{}, {Epoch: 1, Replica: 1}, {Epoch: 1, Number: 1}, {Number: 2}, {Epoch: -1}} {
		if got, ok := m.Index(unknown); got != 0 || ok {
			t.Errorf("Index(%v) is %d, %v", unknown, got, ok)
		}
	}
	if got, ok := model.New().Index(api.ID{}); got != 0 || ok {
		t.Errorf("Index in an empty model is %d, %v", got, ok)
	}
}

// P5.3

func TestInsert(t *testing.T) {
	l := written("AbC")
	for i := range len(l) + 1 {
		m := made(t, l)
		e := api.Element{ID: api.ID{Epoch: 1, Replica: 2, Number: 3}, Char: 'x', Hides: i - 1}
		wantDone(t, m.Insert(i, e))
		wantElements(t, m, slices.Insert(slices.Clone(l), i, e))
		if got, ok := m.Index(e.ID); got != i || !ok {
			t.Errorf("what was inserted at %d stands at %d, %v", i, got, ok)
		}
	}
}

func TestInsertTakesWhatIsRight(t *testing.T) {
	m := of(t, "AbC")
	n := 10
	for _, c := range rightChars() {
		for _, hides := range rightHides() {
			n++
			e := api.Element{ID: id(n), Char: c, Hides: hides}
			wantDone(t, m.Insert(1, e))
			if got, err := m.At(1); got != e || err != nil {
				t.Errorf("%v was inserted, %v, %v stands there", e, got, err)
			}
		}
	}
	if m.Len() != 3+n-10 {
		t.Errorf("Len is %d", m.Len())
	}
}

func TestInsertRefuses(t *testing.T) {
	l := written("AbC")
	m := made(t, l)
	right := api.Element{ID: id(9), Char: 'X'}
	for _, i := range []int{-1, least, 4, 5, most} {
		wantRefusal(t, m.Insert(i, right), "Insert", i, api.ErrRange)
		wantRefusal(t, m.Insert(i, api.Element{ID: id(1), Char: -1, Hides: most}), "Insert", i, api.ErrRange)
	}
	for i := range 4 {
		for _, c := range wrongChars() {
			wantRefusal(t, m.Insert(i, api.Element{ID: id(9), Char: c}), "Insert", i, api.ErrText)
			wantRefusal(t, m.Insert(i, api.Element{ID: id(1), Char: c, Hides: most}), "Insert", i, api.ErrText)
		}
		for _, hides := range wrongHides() {
			wantRefusal(t, m.Insert(i, api.Element{ID: id(9), Hides: hides}), "Insert", i, api.ErrArg)
			wantRefusal(t, m.Insert(i, api.Element{ID: id(1), Hides: hides}), "Insert", i, api.ErrArg)
		}
		for number := 1; number <= 3; number++ {
			wantRefusal(t, m.Insert(i, api.Element{ID: id(number), Char: 'X'}), "Insert", i, api.ErrTwice)
		}
	}
	// R3: nothing has changed, and what was refused is not taken as there.
	wantElements(t, m, l)
	if i, ok := m.Index(id(9)); i != 0 || ok {
		t.Errorf("what was refused stands at %d, %v", i, ok)
	}
	wantDone(t, m.Insert(3, right))
	wantRefusal(t, m.Insert(0, right), "Insert", 0, api.ErrTwice)
}

func TestAdd(t *testing.T) {
	l := written("AbC\nd")
	for i := range l {
		for _, by := range []int{1, -1} {
			m := made(t, l)
			want := slices.Clone(l)
			for range 3 {
				want[i].Hides += by
				wantDone(t, m.Add(i, by))
				wantElements(t, m, want)
				wantPlain(t, m, want)
			}
		}
	}
}

func TestAddAtTheBrink(t *testing.T) {
	l := []api.Element{{ID: id(1), Char: 'A', Hides: brink - 1}, {ID: id(2), Char: 'B', Hides: 1 - brink}}
	m := made(t, l)
	wantDone(t, m.Add(0, 1))
	wantDone(t, m.Add(1, -1))
	l[0].Hides, l[1].Hides = brink, -brink
	wantElements(t, m, l)
	wantRefusal(t, m.Add(0, 1), "Add", 0, api.ErrArg)
	wantRefusal(t, m.Add(1, -1), "Add", 1, api.ErrArg)
	wantElements(t, m, l)
	wantDone(t, m.Add(0, -1))
	wantDone(t, m.Add(1, 1))
	l[0].Hides, l[1].Hides = brink-1, 1-brink
	wantElements(t, m, l)
}

func TestAddRefuses(t *testing.T) {
	l := written("AbC")
	m := made(t, l)
	for _, by := range []int{1, -1, 0, 2, most, least} {
		for _, i := range []int{-1, least, 3, 4, most} {
			wantRefusal(t, m.Add(i, by), "Add", i, api.ErrRange)
		}
	}
	for _, by := range []int{0, 2, -2, brink, -brink, most, least} {
		for i := range 3 {
			wantRefusal(t, m.Add(i, by), "Add", i, api.ErrArg)
		}
	}
	wantElements(t, m, l)
	wantRefusal(t, model.New().Add(0, 1), "Add", 0, api.ErrRange)
}

// P5.4 by hand; laws_test.go holds every place of many rows against the words.

func TestThereAndBackRefuses(t *testing.T) {
	m := of(t, "AbC\nd\n")
	for _, i := range []int{-1, least, 7, 8, most} {
		p, live, err := m.ViewOf(i)
		wantNumberRefused(t, p, err, "ViewOf", i)
		if live {
			t.Errorf("ViewOf(%d) says live beside its refusal", i)
		}
	}
	for _, p := range []int{-1, least, 4, 5, most} {
		i, err := m.ModelOf(p)
		wantNumberRefused(t, i, err, "ModelOf", p)
	}
	for _, p := range []int{-1, least, 5, 6, most} {
		i, err := m.Place(p)
		wantNumberRefused(t, i, err, "Place", p)
	}
	for _, k := range []int{-1, least, 2, 3, most} {
		p, err := m.LineEnd(k)
		wantNumberRefused(t, p, err, "LineEnd", k)
	}
}

func TestPlaceIsAheadOfErasedOnes(t *testing.T) {
	m := of(t, "abCdeFg")
	for p, want := range []int{0, 3, 6} {
		i, err := m.Place(p)
		wantInt(t, "Place", i, err, want)
	}
}

func TestEmpty(t *testing.T) {
	m := model.New()
	p, live, err := m.ViewOf(0)
	wantInt(t, "ViewOf(0)", p, err, 0)
	if live {
		t.Errorf("there is no element, and it is live")
	}
	i, err := m.Place(0)
	wantInt(t, "Place(0)", i, err, 0)
	i, err = m.ModelOf(0)
	wantNumberRefused(t, i, err, "ModelOf", 0)
	i, err = m.LineEnd(0)
	wantNumberRefused(t, i, err, "LineEnd", 0)
	if s, err := m.Slice(0, 0); s != "" || err != nil {
		t.Errorf("Slice(0, 0) is %q, %v", s, err)
	}
	if m.Purge() != 0 {
		t.Errorf("something went of nothing")
	}
}

// P5.5

func TestViewIsUTF8(t *testing.T) {
	var l []api.Element
	var want string
	for _, c := range rightChars() {
		l = append(l, api.Element{ID: id(len(l)), Char: c})
		want += string(c)
	}
	m := made(t, l)
	wantView(t, m, want)
	for i := range l {
		if s, err := m.Slice(i, 1); s != string(l[i].Char) || err != nil {
			t.Errorf("Slice(%d, 1) is %q, %v", i, s, err)
		}
	}
}

func TestSliceRefuses(t *testing.T) {
	m := of(t, "AbCdE")
	for _, x := range []struct{ p, n int }{
		{-1, 0}, {-1, 1}, {least, 0}, {least, most}, {4, 0}, {4, -1}, {most, 0}, {most, most},
		{0, -1}, {0, 4}, {0, most}, {1, 3}, {2, 2}, {3, 1}, {3, -1}, {3, least}, {1, most}, {1, least},
	} {
		s, err := m.Slice(x.p, x.n)
		wantRefusal(t, err, "Slice", x.p, api.ErrRange)
		if s != "" {
			t.Errorf("Slice(%d, %d) answers %q beside its refusal", x.p, x.n, s)
		}
	}
}

// P5.6, P5.8

func TestPurge(t *testing.T) {
	for _, x := range []struct {
		text string
		gone int
	}{{"", 0}, {"A", 0}, {"a", 1}, {"ab", 2}, {"AB", 0}, {"aBcdEf", 4}, {"Ab\nc", 2}} {
		m := of(t, x.text)
		view := m.View()
		var live []api.Element
		for _, e := range written(x.text) {
			if e.Hides <= 0 {
				live = append(live, e)
			}
		}
		if got := m.Purge(); got != x.gone {
			t.Errorf("Purge of %q is %d, not %d", x.text, got, x.gone)
		}
		wantElements(t, m, live)
		wantPlain(t, m, live)
		wantView(t, m, view)
		if m.Len() != m.Live() || m.Purge() != 0 {
			t.Errorf("not all has gone of %q", x.text)
		}
	}
}

func TestPurgeKeepsHides(t *testing.T) {
	l := []api.Element{{ID: id(1), Hides: -brink}, {ID: id(2), Hides: brink}, {ID: id(3), Hides: -1}, {ID: id(4), Hides: 0}}
	m := made(t, l)
	if got := m.Purge(); got != 1 {
		t.Errorf("Purge is %d", got)
	}
	wantElements(t, m, []api.Element{l[0], l[2], l[3]})
}

// An ID whose element went is free again; one that stayed is not.
func TestPurgeFreesIDs(t *testing.T) {
	m := of(t, "aBc")
	m.Purge()
	wantRefusal(t, m.Insert(0, api.Element{ID: id(2)}), "Insert", 0, api.ErrTwice)
	wantDone(t, m.Insert(0, api.Element{ID: id(3), Char: 'X'}))
	wantDone(t, m.Insert(2, api.Element{ID: id(1), Char: 'Y'}))
	wantView(t, m, "XBY")
	for i, number := range []int{3, 2, 1} {
		if got, ok := m.Index(id(number)); got != i || !ok {
			t.Errorf("Index(%d) is %d, %v, not %d", number, got, ok, i)
		}
	}
}
