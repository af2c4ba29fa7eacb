package lines_test

import (
	"math"
	"slices"
	"strings"
	"testing"

	"barrow/api"
	"barrow/fault"
	"barrow/lines"
	"barrow/model"
)

const (
	most  = math.MaxInt
	least = math.MinInt
)

func made(t testing.TB, l []api.Element) *model.Model {
	t.Helper()
	m, err := model.Of(l)
	if err != nil {
		t.Fatalf("Of answers %v", err)
	}
	return m
}

func live(text string) []api.Element {
	var l []api.Element
	for _, c := range text {
		l = append(l, api.Element{ID: api.ID{Number: len(l)}, Char: c})
	}
	return l
}

// among are the elements of a text, with erased ones about each of them: line
// ends, and letters that would join words.
func among(text string) []api.Element {
	var l []api.Element
	lay := func(c rune, hides int) {
		l = append(l, api.Element{ID: api.ID{Number: len(l)}, Char: c, Hides: hides})
	}
	lay('\n', 1)
	for i, c := range []rune(text) {
		lay('q', 1)
		lay(c, -(i % 3))
		lay('\n', 1+i%2)
	}
	lay('q', 3)
	return l
}

// shapes are two models with one view: without erased elements, and with.
func shapes(t testing.TB, text string) map[string]*model.Model {
	t.Helper()
	return map[string]*model.Model{
		"live alone":   made(t, live(text)),
		"among erased": made(t, among(text)),
	}
}

// each runs a test on every model of a text.
func each(t *testing.T, text string, test func(t *testing.T, m *model.Model)) {
	t.Helper()
	for name, m := range shapes(t, text) {
		t.Run(name, func(t *testing.T) { test(t, m) })
	}
}

func wantRefusal(t testing.TB, err error, call string, at int, why error) {
	t.Helper()
	f, ok := err.(*fault.Fault)
	if !ok || *f != (fault.Fault{Layer: "lines", Call: call, At: max(at, -1), Why: why}) {
		t.Errorf("the error is %v, not lines.%s at %d: %v", err, call, at, why)
	}
}

func wantInt(t testing.TB, what string, got int, err error, want int) {
	t.Helper()
	if got != want || err != nil {
		t.Errorf("%s is %d, %v, not %d", what, got, err, want)
	}
}

func wantPair(t testing.TB, what string, a, b int, err error, want [2]int) {
	t.Helper()
	if a != want[0] || b != want[1] || err != nil {
		t.Errorf("%s is %d %d, %v, not %v", what, a, b, err, want)
	}
}

func wantText(t testing.TB, what string, got string, err error, want string) {
	t.Helper()
	if got != want || err != nil {
		t.Errorf("%s is %q, %v, not %q", what, got, err, want)
	}
}

// wantNoLine holds of all calls that take a line that they refuse this one,
// and answer nothing beside.
func wantNoLine(t testing.TB, m *model.Model, line, at int, why error) {
	t.Helper()
	n, err := lines.Start(m, line)
	wantRefusal(t, err, "Start", at, why)
	wantInt(t, "Start beside its refusal", n, nil, 0)
	n, err = lines.Length(m, line)
	wantRefusal(t, err, "Length", at, why)
	wantInt(t, "Length beside its refusal", n, nil, 0)
	s, err := lines.Text(m, line)
	wantRefusal(t, err, "Text", at, why)
	wantText(t, "Text beside its refusal", s, nil, "")
	for _, column := range []int{0, 1, -1, most, least} {
		n, err = lines.Place(m, line, column)
		wantRefusal(t, err, "Place", at, why)
		wantInt(t, "Place beside its refusal", n, nil, 0)
	}
}

// wantNoGap is wantNoLine of the calls that take a gap.
func wantNoGap(t testing.TB, m *model.Model, p, at int, why error) {
	t.Helper()
	a, b, err := lines.Where(m, p)
	wantRefusal(t, err, "Where", at, why)
	wantPair(t, "Where beside its refusal", a, b, nil, [2]int{})
	a, b, err = lines.Around(m, p)
	wantRefusal(t, err, "Around", at, why)
	wantPair(t, "Around beside its refusal", a, b, nil, [2]int{})
}

// P6.1, P6.2, P6.3: lines and gaps that are not there.
func TestOutOfRange(t *testing.T) {
	for _, text := range []string{"", "a", "\n", "ab\n\nc", "é\n世\n"} {
		each(t, text, func(t *testing.T, m *model.Model) {
			count := strings.Count(text, "\n") + 1
			for _, line := range []int{count, count + 1, -1, -2, most, most - 1, least, least + 1} {
				wantNoLine(t, m, line, line, api.ErrRange)
			}
			gaps := len([]rune(text)) + 1
			for _, p := range []int{gaps, gaps + 1, -1, -2, most, most - 1, least, least + 1} {
				wantNoGap(t, m, p, p, api.ErrRange)
			}
		})
	}
}

// No model is refused for itself, ahead of what is out of range.
func TestNil(t *testing.T) {
	for _, n := range []int{0, 1, 7, -1, most, least} {
		wantNoLine(t, nil, n, -1, api.ErrArg)
		wantNoGap(t, nil, n, -1, api.ErrArg)
	}
	if got := lines.Count(nil); got != 0 {
		t.Errorf("Count of nil is %d", got)
	}
}

// P6.2: a column beside its line counts as the nearest one in it.
func TestPlaceColumns(t *testing.T) {
	each(t, "abc\n\nxy", func(t *testing.T, m *model.Model) {
		for _, x := range []struct{ line, column, want int }{
			{0, 0, 0}, {0, 1, 1}, {0, 3, 3}, {0, 4, 3}, {0, most, 3}, {0, -1, 0}, {0, least, 0},
			{1, 0, 4}, {1, 1, 4}, {1, most, 4}, {1, -1, 4}, {1, least, 4},
			{2, 0, 5}, {2, 2, 7}, {2, 3, 7}, {2, most, 7}, {2, -1, 5}, {2, least, 5},
		} {
			p, err := lines.Place(m, x.line, x.column)
			wantInt(t, "Place", p, err, x.want)
		}
	})
}

// P6.3: which characters are of words, at the edges of each kind.
func TestWordCharacters(t *testing.T) {
	are := []rune{'a', 'z', 'A', 'Z', '0', '9', 128, 0x85, 0xA0, 'é', 0x2028, '世', 0xD7FF, 0xE000, 0xFFFD, 0xFFFF, 0x10000, api.MaxChar}
	for c := rune(0); c < 128; c++ {
		wantOfWord(t, c, strings.ContainsRune("abcdefghijklmnopqrstuvwxyzABCDEFGHIJKLMNOPQRSTUVWXYZ0123456789", c))
	}
	for _, c := range are {
		wantOfWord(t, c, true)
	}
}

func wantOfWord(t *testing.T, c rune, is bool) {
	t.Helper()
	for _, m := range shapes(t, "x"+string(c)+"y") {
		for p := range 4 {
			want := [2]int{0, 3}
			if !is {
				want = [2]int{p / 2 * 2, p/2*2 + 1}
			}
			from, to, err := lines.Around(m, p)
			wantPair(t, "Around "+string(c), from, to, err, want)
		}
	}
}

// P6.3: a word ends at the view's ends and at line ends, and no word is at a
// gap with none beside it.
func TestAroundEdges(t *testing.T) {
	for text, want := range map[string][][2]int{
		"":         {{0, 0}},
		"a":        {{0, 1}, {0, 1}},
		" ":        {{0, 0}, {1, 1}},
		"\n":       {{0, 0}, {1, 1}},
		"a\nb":     {{0, 1}, {0, 1}, {2, 3}, {2, 3}},
		"a b":      {{0, 1}, {0, 1}, {2, 3}, {2, 3}},
		"a  b":     {{0, 1}, {0, 1}, {2, 2}, {3, 4}, {3, 4}},
		" ab ":     {{0, 0}, {1, 3}, {1, 3}, {1, 3}, {4, 4}},
		"\n\nab\n": {{0, 0}, {1, 1}, {2, 4}, {2, 4}, {2, 4}, {5, 5}},
		"é世-Z9":    {{0, 2}, {0, 2}, {0, 2}, {3, 5}, {3, 5}, {3, 5}},
		"a_b":      {{0, 1}, {0, 1}, {2, 3}, {2, 3}},
		"世\n x":    {{0, 1}, {0, 1}, {2, 2}, {3, 4}, {3, 4}},
	} {
		each(t, text, func(t *testing.T, m *model.Model) {
			for p, ends := range want {
				from, to, err := lines.Around(m, p)
				wantPair(t, "Around", from, to, err, ends)
			}
		})
	}
}

// P6.4: any bytes are cut, just at the bytes 10.
func TestSplit(t *testing.T) {
	for s, want := range map[string][]string{
		"":                {""},
		"a":               {"a"},
		"\n":              {"", ""},
		"a\n":             {"a", ""},
		"\na":             {"", "a"},
		"a\nb\n\nc":       {"a", "b", "", "c"},
		"a\r\nb\rc":       {"a\r", "b\rc"},
		"a\vb\fc":         {"a\vb\fc"},
		"é\n世":            {"é", "世"},
		"\u2028\u0085\n":  {"\u2028\u0085", ""},
		"\xff\n\xe4\xb8":  {"\xff", "\xe4\xb8"},
		"\xe4\n\xb8\x96":  {"\xe4", "\xb8\x96"},
		"\x00\n\x00\x00":  {"\x00", "\x00\x00"},
		"\u010a\u0a0a\na": {"\u010a\u0a0a", "a"},
	} {
		if got := lines.Split(s); !slices.Equal(got, want) {
			t.Errorf("Split(%q) is %q, not %q", s, got, want)
		}
	}
}

// R2: each answer is the caller's own, its spare room too.
func TestSplitMemory(t *testing.T) {
	first := lines.Split("a\nb\nc")
	_ = append(first[:2], "changed")
	first[0] = "changed"
	if got := lines.Split("a\nb\nc"); !slices.Equal(got, []string{"a", "b", "c"}) {
		t.Errorf("another answer is %q", got)
	}
}

// No call changes the model that it is asked of, nor keeps it: the answers
// follow what is done to it.
func TestModelStays(t *testing.T) {
	m := made(t, among("abc\nd"))
	was := m.Elements()
	askAll(m)
	if !slices.Equal(m.Elements(), was) {
		t.Errorf("the elements are %v, were %v", m.Elements(), was)
	}
	i, _ := m.ModelOf(3)
	if err := m.Add(i, 1); err != nil {
		t.Fatal(err)
	}
	wantAll(t, m, "abcd")
	m.Add(i, -1)
	wantAll(t, m, "abc\nd")
	m.Insert(0, api.Element{ID: api.ID{Epoch: 1}, Char: '\n'})
	wantAll(t, m, "\nabc\nd")
	m.Purge()
	wantAll(t, m, "\nabc\nd")
}

func askAll(m *model.Model) {
	for k := -1; k <= lines.Count(m); k++ {
		lines.Start(m, k)
		lines.Length(m, k)
		lines.Text(m, k)
		lines.Place(m, k, 1)
	}
	for p := -1; p <= m.Live()+1; p++ {
		lines.Where(m, p)
		lines.Around(m, p)
	}
}
