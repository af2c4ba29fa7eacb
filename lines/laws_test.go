package lines_test

import (
	"math/rand"
	"slices"
	"strings"
	"testing"

	"barrow/api"
	"barrow/lines"
	"barrow/model"
)

// wantAll holds all that the package tells of a model (P6.1 to P6.5) against
// what the chapter's words say of its view.
func wantAll(t testing.TB, m *model.Model, view string) {
	t.Helper()
	if m.View() != view {
		t.Fatalf("the view is %q, not %q", m.View(), view)
	}
	wantLines(t, m, view)
	wantGaps(t, m, []rune(view))
	wantNoLine(t, m, lines.Count(m), lines.Count(m), api.ErrRange)
	wantNoLine(t, m, -1, -1, api.ErrRange)
	wantNoGap(t, m, m.Live()+1, m.Live()+1, api.ErrRange)
	wantNoGap(t, m, -1, -1, api.ErrRange)
}

func wantLines(t testing.TB, m *model.Model, view string) {
	t.Helper()
	texts := lines.Split(view)
	if len(texts) != strings.Count(view, "\n")+1 || strings.Join(texts, "\n") != view {
		t.Errorf("Split(%q) is %q", view, texts)
	}
	if lines.Count(m) != len(texts) {
		t.Errorf("Count is %d, the view is %q", lines.Count(m), view)
	}
	start := 0
	for line, text := range texts {
		size := len([]rune(text))
		p, err := lines.Start(m, line)
		wantInt(t, "Start", p, err, start)
		n, err := lines.Length(m, line)
		wantInt(t, "Length", n, err, size)
		s, err := lines.Text(m, line)
		wantText(t, "Text", s, err, text)
		for column := -1; column <= size+1; column++ {
			p, err := lines.Place(m, line, column)
			wantInt(t, "Place", p, err, start+min(max(column, 0), size))
		}
		start += size + 1
	}
}

func wantGaps(t testing.TB, m *model.Model, view []rune) {
	t.Helper()
	line, column := 0, 0
	for p := range len(view) + 1 {
		if p > 0 {
			column++
			if view[p-1] == '\n' {
				line, column = line+1, 0
			}
		}
		l, c, err := lines.Where(m, p)
		wantPair(t, "Where", l, c, err, [2]int{line, column})
		back, err := lines.Place(m, l, c)
		wantInt(t, "Place(Where)", back, err, p)
		from, to, err := lines.Around(m, p)
		wantPair(t, "Around", from, to, err, longestAt(view, p))
	}
}

// longestAt tries every piece of the view that a gap lies in or touches.
func longestAt(view []rune, p int) [2]int {
	best := [2]int{p, p}
	for from := p; from >= 0; from-- {
		for to := p; to <= len(view); to++ {
			other := slices.ContainsFunc(view[from:to], func(c rune) bool {
				return c < 128 && !strings.ContainsRune("abcdefghijklmnopqrstuvwxyzABCDEFGHIJKLMNOPQRSTUVWXYZ0123456789", c)
			})
			if !other && to-from > best[1]-best[0] {
				best = [2]int{from, to}
			}
		}
	}
	return best
}

// Every view of up to six characters of four kinds.
func TestAllShortViews(t *testing.T) {
	kinds := []rune{'a', '\n', '-', '世'}
	for size := range 7 {
		for n := range 1 << (2 * size) {
			var view []rune
			for range size {
				view = append(view, kinds[n%4])
				n /= 4
			}
			wantAll(t, made(t, live(string(view))), string(view))
			wantAll(t, made(t, among(string(view))), string(view))
		}
	}
}

// rowOf is a row of elements that bytes tell, and its view.
func rowOf(raw []byte) ([]api.Element, string) {
	chars := []rune{'\n', 'a', ' ', '\n', 'é', '7', '世', api.MaxChar, 0, '\r', 'Z', '_', 0xFFFD, 127, 128, '\n'}
	var l []api.Element
	var view strings.Builder
	for i, b := range raw {
		e := api.Element{ID: api.ID{Number: i}, Char: chars[b%16], Hides: int(b/16)%4 - 2}
		if e.Hides <= 0 {
			view.WriteRune(e.Char)
		}
		l = append(l, e)
	}
	return l, view.String()
}

func TestLaws(t *testing.T) {
	for seed := range 300 {
		rnd := rand.New(rand.NewSource(int64(seed)))
		raw := make([]byte, rnd.Intn(60))
		rnd.Read(raw)
		l, view := rowOf(raw)
		wantAll(t, made(t, l), view)
	}
}

// A long view: of many lines, of one line, of line ends alone.
func TestLongViews(t *testing.T) {
	for name, part := range map[string]string{
		"many lines": "some wörds, 12 世\n\nx\n",
		"one line":   "some wörds, 12 世 ",
		"line ends":  "\n",
	} {
		view := []rune(strings.Repeat(part, 20000/len(part)))
		m := made(t, among(string(view)))
		wantLines(t, m, string(view))
		rnd := rand.New(rand.NewSource(1))
		for range 200 {
			p := rnd.Intn(len(view) + 1)
			line, column, err := lines.Where(m, p)
			ahead := string(view[:p])
			wantPair(t, name, line, column, err, [2]int{strings.Count(ahead, "\n"), len([]rune(ahead[strings.LastIndex(ahead, "\n")+1:]))})
			low := max(p-30, 0) // no word of these is as long
			near := longestAt(view[low:min(p+30, len(view))], p-low)
			from, to, err := lines.Around(m, p)
			wantPair(t, name, from, to, err, [2]int{low + near[0], low + near[1]})
		}
	}
}

// A word may be as long as the view.
func TestLongWord(t *testing.T) {
	m := made(t, among(strings.Repeat("aé9", 5000)))
	for _, p := range []int{0, 1, 7500, 14999, 15000} {
		from, to, err := lines.Around(m, p)
		wantPair(t, "Around", from, to, err, [2]int{0, 15000})
	}
}

func FuzzLines(f *testing.F) {
	f.Add([]byte{1, 0, 2, 48, 50, 65, 6, 15})
	f.Add([]byte{0, 0, 0})
	f.Fuzz(func(t *testing.T, raw []byte) {
		l, view := rowOf(raw[:min(len(raw), 60)])
		wantAll(t, made(t, l), view)
		texts := lines.Split(string(raw))
		if len(texts) != strings.Count(string(raw), "\n")+1 || strings.Join(texts, "\n") != string(raw) {
			t.Errorf("Split(%q) is %q", raw, texts)
		}
		if slices.ContainsFunc(texts, func(s string) bool { return strings.Contains(s, "\n") }) {
			t.Errorf("a piece of %q has a line end", raw)
		}
	})
}
