package model_test

import (
	"math/rand"
	"slices"
	"strings"
	"testing"

	"barrow/api"
	"barrow/model"
)

// liveOf are the places of the live elements of a plain list: what the
// chapter's words say of a row is read off from these.
func liveOf(l []api.Element) []int {
	var live []int
	for i, e := range l {
		if e.Hides <= 0 {
			live = append(live, i)
		}
	}
	return live
}

func textOf(l []api.Element, places []int) string {
	var b strings.Builder
	for _, i := range places {
		b.WriteString(string(l[i].Char))
	}
	return b.String()
}

// wantPlain holds all that a model tells (P5.2, P5.4, P5.5, P5.7) against the
// list that it shall be of.
func wantPlain(t testing.TB, m *model.Model, l []api.Element) {
	t.Helper()
	live := liveOf(l)
	wantElements(t, m, l)
	wantView(t, m, textOf(l, live))
	wantViewOf(t, m, l)
	wantModelOf(t, m, live)
	wantLineEnds(t, m, l, live)
	for i, e := range l {
		if got, ok := m.Index(e.ID); got != i || !ok {
			t.Errorf("Index(%v) is %d, %v, not %d", e.ID, got, ok, i)
		}
		if got, err := m.At(i); got != e || err != nil {
			t.Errorf("At(%d) is %v, %v, not %v", i, got, err, e)
		}
	}
}

func wantViewOf(t testing.TB, m *model.Model, l []api.Element) {
	t.Helper()
	for i := range len(l) + 1 {
		p, is, err := m.ViewOf(i)
		wantInt(t, "ViewOf", p, err, len(liveOf(l[:i])))
		if is != (i < len(l) && l[i].Hides <= 0) {
			t.Errorf("ViewOf(%d) says %v", i, is)
		}
	}
	_, _, err := m.ViewOf(len(l) + 1)
	wantRefusal(t, err, "ViewOf", len(l)+1, api.ErrRange)
}

func wantModelOf(t testing.TB, m *model.Model, live []int) {
	t.Helper()
	place, err := m.Place(0)
	wantInt(t, "Place(0)", place, err, 0)
	for p, want := range live {
		i, err := m.ModelOf(p)
		wantInt(t, "ModelOf", i, err, want)
		place, err := m.Place(p + 1)
		wantInt(t, "Place", place, err, want+1)
		back, is, err := m.ViewOf(i)
		wantInt(t, "ViewOf(ModelOf)", back, err, p)
		if !is {
			t.Errorf("ModelOf(%d) is not live", p)
		}
	}
	i, err := m.ModelOf(len(live))
	wantNumberRefused(t, i, err, "ModelOf", len(live))
	i, err = m.Place(len(live) + 1)
	wantNumberRefused(t, i, err, "Place", len(live)+1)
}

func wantLineEnds(t testing.TB, m *model.Model, l []api.Element, live []int) {
	t.Helper()
	k := 0
	for p, i := range live {
		if l[i].Char == 10 {
			got, err := m.LineEnd(k)
			wantInt(t, "LineEnd", got, err, p)
			k++
		}
	}
	if m.Lines() != k {
		t.Errorf("Lines is %d, not %d", m.Lines(), k)
	}
	p, err := m.LineEnd(k)
	wantNumberRefused(t, p, err, "LineEnd", k)
}

func wantSlices(t testing.TB, m *model.Model, l []api.Element) {
	t.Helper()
	live := liveOf(l)
	for p := range len(live) + 1 {
		for n := range len(live) - p + 1 {
			if s, err := m.Slice(p, n); s != textOf(l, live[p:p+n]) || err != nil {
				t.Errorf("Slice(%d, %d) is %q, %v", p, n, s, err)
			}
		}
		_, err := m.Slice(p, len(live)-p+1)
		wantRefusal(t, err, "Slice", p, api.ErrRange)
	}
}

// wantUntouched is P5.7: what is seen of the others stays as it was when the
// element at i has come, or has changed.
func wantUntouched(t testing.TB, m *model.Model, i int, others []api.Element) {
	t.Helper()
	rest := slices.Delete(m.Elements(), i, i+1)
	if !slices.Equal(rest, others) {
		t.Errorf("the others are %v, were %v", rest, others)
	}
	p, is, err := m.ViewOf(i)
	wantDone(t, err)
	view := []rune(m.View())
	if is {
		view = slices.Delete(view, p, p+1)
	}
	if want := textOf(others, liveOf(others)); string(view) != want {
		t.Errorf("of the others is seen %q, was %q", string(view), want)
	}
}

func charOf(b byte) rune {
	return []rune{'\n', 'a', 'Z', 0, 'é', '世', api.MaxChar, '\n'}[b%8]
}

// play does to a model and to a plain list what the bytes say.
func play(t testing.TB, raw []byte, check func(m *model.Model, l []api.Element)) {
	m := model.New()
	var l []api.Element
	for len(raw) >= 3 {
		kind, a, b := raw[0], int(raw[1]), raw[2]
		at := a * (len(l) + 1) / 256
		raw = raw[3:]
		switch {
		case kind%16 == 15:
			live := liveOf(l)
			if got := m.Purge(); got != len(l)-len(live) {
				t.Errorf("Purge is %d, not %d", got, len(l)-len(live))
			}
			l = slices.DeleteFunc(l, func(e api.Element) bool { return e.Hides > 0 })
		case kind%16 == 14:
			other := m
			m = m.Copy()
			other.Insert(0, api.Element{ID: api.ID{Epoch: -1}, Char: 'Q'})
			other.Purge()
		case kind%16 > 8 && at < len(l):
			by := 1 - int(b)%2*2
			others := slices.Delete(slices.Clone(l), at, at+1)
			wantDone(t, m.Add(at, by))
			l[at].Hides += by
			wantUntouched(t, m, at, others)
		default:
			e := api.Element{ID: api.ID{Epoch: len(raw), Replica: a % 3, Number: int(b)}, Char: charOf(b), Hides: int(kind%3) - 1}
			wantDone(t, m.Insert(at, e))
			wantUntouched(t, m, at, l)
			l = slices.Insert(l, at, e)
		}
		check(m, l)
	}
}

// P5.2 to P5.8, of rows that any steps lead to.
func TestLaws(t *testing.T) {
	for seed := range 150 {
		rnd := rand.New(rand.NewSource(int64(seed)))
		raw := make([]byte, 3*(1+rnd.Intn(60)))
		rnd.Read(raw)
		play(t, raw, func(m *model.Model, l []api.Element) { wantPlain(t, m, l) })
		play(t, raw[:min(len(raw), 60)], func(m *model.Model, l []api.Element) { wantSlices(t, m, l) })
	}
}

// Every row of up to six elements that are erased, live, or live line ends.
func TestAllShortRows(t *testing.T) {
	for size := range 7 {
		rows := 1
		for range size {
			rows *= 3
		}
		for n := range rows {
			var l []api.Element
			for i := range size {
				e := api.Element{ID: id(i), Char: rune('a' + i)}
				switch n % 3 {
				case 1:
					e.Hides = 1
				case 2:
					e.Char = '\n'
				}
				l = append(l, e)
				n /= 3
			}
			m := made(t, l)
			wantPlain(t, m, l)
			wantSlices(t, m, l)
			view := m.View()
			m.Purge()
			wantView(t, m, view)
			if m.Len() != m.Live() {
				t.Errorf("Len is %d behind Purge, Live is %d", m.Len(), m.Live())
			}
		}
	}
}

// A long row, in whatever order its elements come: each ID is found.
func TestLongRows(t *testing.T) {
	rnd := rand.New(rand.NewSource(1))
	last := 0
	for name, place := range map[string]func(n int) int{
		"ahead":     func(n int) int { return 0 },
		"behind":    func(n int) int { return n },
		"midst":     func(n int) int { return n / 2 },
		"one place": func(n int) int { return min(n, 100) },
		"near end":  func(n int) int { return max(n-1, 0) },
		"anywhere":  func(n int) int { return rnd.Intn(n + 1) },
		"typed": func(n int) int {
			if last++; last > n || rnd.Intn(50) == 0 {
				last = rnd.Intn(n + 1)
			}
			return last
		},
	} {
		last = 0
		m := model.New()
		var l []api.Element
		for k := range 5000 {
			i := place(len(l))
			e := api.Element{ID: id(k), Char: rune('a' + k%26), Hides: k % 5 / 4}
			wantDone(t, m.Insert(i, e))
			l = slices.Insert(l, i, e)
			if got, ok := m.Index(id(k)); got != i || !ok {
				t.Fatalf("%s: Index is %d, %v, not %d", name, got, ok, i)
			}
		}
		wantElements(t, m, l)
		for i, e := range l {
			if got, ok := m.Index(e.ID); got != i || !ok {
				t.Fatalf("%s: Index is %d, %v, not %d", name, got, ok, i)
			}
		}
		gone := m.Purge()
		if i, ok := m.Index(id(4)); gone != 1000 || i != 0 || ok {
			t.Errorf("%s: %d went, and Index of one of these is %d, %v", name, gone, i, ok)
		}
	}
}

func FuzzModel(f *testing.F) {
	f.Add([]byte{0, 0, 1, 3, 255, 0, 9, 0, 0, 15, 0, 0, 14, 0, 0})
	f.Add([]byte{1, 0, 1, 1, 0, 2, 1, 0, 3, 1, 0, 4, 10, 128, 1, 15, 0, 0, 2, 255, 9})
	f.Fuzz(func(t *testing.T, raw []byte) {
		play(t, raw[:min(len(raw), 150)], func(m *model.Model, l []api.Element) {
			wantPlain(t, m, l)
			if len(l) < 12 {
				wantSlices(t, m, l)
			}
		})
	})
}
