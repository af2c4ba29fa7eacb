package diff_test

import (
	"math/rand"
	"slices"
	"strings"
	"testing"
	"unicode/utf8"

	"barrow/api"
	"barrow/diff"
)

// size is how many characters edits erase and insert.
func size(l []api.Edit) int {
	n := 0
	for _, e := range l {
		n += e.Erase + utf8.RuneCountInString(e.Insert)
	}
	return n
}

// standsIn says whether a text stands in another one, with gaps.
func standsIn(s, in string) bool {
	rest := []rune(s)
	for _, c := range in {
		if len(rest) > 0 && rest[0] == c {
			rest = rest[1:]
		}
	}
	return len(rest) == 0
}

// wantByTheWords holds the calls of two right texts against the plain reading.
func wantByTheWords(t testing.TB, a, b string) {
	t.Helper()
	d, l, common := plainWalk(a, b)
	wantDistance(t, a, b, d)
	wantEdits(t, a, b, l...)
	wantCommon(t, a, b, common)
}

// wantLaws is P15.4 and P15.5 of two right texts, for which there is room.
func wantLaws(t testing.TB, a, b string) {
	t.Helper()
	d, err1 := diff.Distance(a, b)
	other, err2 := diff.Distance(b, a)
	l, err3 := diff.Edits(a, b)
	common, err4 := diff.Common(a, b)
	if err1 != nil || err2 != nil || err3 != nil || err4 != nil {
		t.Fatalf("%q and %q are refused: %v %v %v %v", a, b, err1, err2, err3, err4)
	}
	wantApply(t, a, l, b)
	if size(l) != d || other != d || (d == 0) != (a == b) {
		t.Errorf("%q and %q: Distance is %d and %d, Edits are %v", a, b, d, other, l)
	}
	both := utf8.RuneCountInString(a) + utf8.RuneCountInString(b)
	if d != both-2*utf8.RuneCountInString(common) || !standsIn(common, a) || !standsIn(common, b) {
		t.Errorf("%q and %q: Common is %q, Distance %d", a, b, common, d)
	}
	for i, e := range l {
		if e.Erase == 0 && e.Insert == "" || i > 0 && e.At <= l[i-1].At+utf8.RuneCountInString(l[i-1].Insert) {
			t.Errorf("%q and %q: Edits are %v", a, b, l)
		}
	}
	wantBack(t, a, l, b)
}

// wantBack is P15.5 of edits that make b of a.
func wantBack(t testing.TB, a string, l []api.Edit, b string) {
	t.Helper()
	back, err := diff.Invert(a, l)
	if err != nil || len(back) != len(l) {
		t.Errorf("Invert(%q, %v) is %v, %v", a, l, back, err)
	}
	wantApply(t, b, back, a)
	again, err := diff.Invert(b, back)
	if err != nil || !slices.Equal(again, l) {
		t.Errorf("Invert of %v is %v, %v, not %v", back, again, err, l)
	}
}

// wantEditsByTheWords holds the calls of a text and edits, right or not.
func wantEditsByTheWords(t testing.TB, a string, l []api.Edit) {
	t.Helper()
	text, back, at, why := plainApply(a, l)
	if why != nil {
		wantNoEdits(t, a, l, at, why)
		return
	}
	wantApply(t, a, l, text)
	wantInvert(t, a, l, back...)
	wantBack(t, a, l, text)
}

// P15.1, P15.3, P15.4, P15.5, of all pairs of short texts.
func TestAllShortTexts(t *testing.T) {
	for _, l := range [][]string{allTexts("ab", 6), allTexts("aé世", 4)} {
		for _, a := range l {
			for _, b := range l {
				wantByTheWords(t, a, b)
				wantLaws(t, a, b)
			}
			if t.Failed() {
				return
			}
		}
	}
}

// Distance is the least: nothing longer than Common stands in both.
func TestNothingLongerIsCommon(t *testing.T) {
	l := allTexts("abc", 4)
	for _, a := range l {
		for _, b := range l {
			common, err := diff.Common(a, b)
			if err != nil {
				t.Fatal(err)
			}
			for _, s := range l {
				if len(s) > len(common) && standsIn(s, a) && standsIn(s, b) {
					t.Fatalf("Common(%q, %q) is %q, not %q", a, b, common, s)
				}
			}
		}
	}
}

// P15.4: no way round is shorter.
func TestWayRound(t *testing.T) {
	l := allTexts("ab", 4)
	apart := make([][]int, len(l))
	for i, a := range l {
		for _, b := range l {
			d, err := diff.Distance(a, b)
			if err != nil {
				t.Fatal(err)
			}
			apart[i] = append(apart[i], d)
		}
	}
	for i := range l {
		for j := range l {
			for k := range l {
				if apart[i][k] > apart[i][j]+apart[j][k] {
					t.Errorf("%q, %q, %q: %d, %d, %d", l[i], l[j], l[k], apart[i][k], apart[i][j], apart[j][k])
				}
			}
		}
	}
}

// P15.2, P15.3, P15.5, of all rows of up to three small edits.
func TestAllShortRows(t *testing.T) {
	var each []api.Edit
	for at := -1; at <= 3; at++ {
		for erase := -1; erase <= 3; erase++ {
			for _, s := range []string{"", "é", "xy", "\xff"} {
				each = append(each, ed(at, erase, s))
			}
		}
	}
	for _, a := range []string{"", "世", "ab"} {
		for _, e := range each {
			wantEditsByTheWords(t, a, row(e))
			for _, f := range each {
				wantEditsByTheWords(t, a, row(e, f))
				wantEditsByTheWords(t, a, row(ed(0, 0, "z"), e, f))
			}
		}
		if t.Failed() {
			return
		}
	}
}

// someText is of up to n of some characters.
func someText(r *rand.Rand, chars []rune, n int) string {
	l := make([]rune, r.Intn(n+1))
	for i := range l {
		l[i] = chars[r.Intn(len(chars))]
	}
	return string(l)
}

// someEdits are mostly right for a text of that length.
func someEdits(r *rand.Rand, length int) []api.Edit {
	var l []api.Edit
	for range r.Intn(6) {
		at := r.Intn(length + 1)
		e := ed(at, r.Intn(length-at+1), someText(r, []rune("aé世\n"), 4))
		length += utf8.RuneCountInString(e.Insert) - e.Erase
		switch r.Intn(30) {
		case 0:
			e.At += r.Intn(7) - 3
		case 1:
			e.Erase += r.Intn(7) - 3
		case 2:
			e.Insert += "\xe4\xb8"
		}
		l = append(l, e)
	}
	return l
}

func TestSomeTexts(t *testing.T) {
	for seed := range int64(400) {
		r := rand.New(rand.NewSource(seed))
		chars := []rune("aébc世d\n\x00\U0010ffffefgh")[:2+r.Intn(10)]
		a, b, c := someText(r, chars, 40), someText(r, chars, 40), someText(r, chars, 40)
		wantByTheWords(t, a, b)
		wantLaws(t, a, b)
		ab, _ := diff.Distance(a, b)
		bc, _ := diff.Distance(b, c)
		if ac, err := diff.Distance(a, c); err != nil || ac > ab+bc {
			t.Errorf("Distance(%q, %q) is %d, %v; by %q it is %d and %d", a, c, ac, err, b, ab, bc)
		}
		for range 20 {
			wantEditsByTheWords(t, a, someEdits(r, utf8.RuneCountInString(a)))
		}
		if t.Failed() {
			t.Fatalf("the seed is %d", seed)
		}
	}
}

// A text and the same with a few edits, as long as there is room for.
func TestLongTexts(t *testing.T) {
	r := rand.New(rand.NewSource(1))
	for _, n := range []int{2000, 500, 60} {
		chars := []rune("abcdeé世 \n")
		a := []rune(strings.Repeat("a", n))
		for i := range a {
			a[i] = chars[r.Intn(len(chars))]
		}
		b := string(a)
		for range 10 {
			at := r.Intn(n)
			b, _ = diff.Apply(b, row(ed(at, r.Intn(min(4, utf8.RuneCountInString(b)-at)+1), "xyz"[:r.Intn(3)])))
		}
		if n <= 500 { // the plain reading is slow
			wantByTheWords(t, string(a), b)
		}
		wantLaws(t, string(a), b)
		wantLaws(t, b, string(a))
	}
}

func FuzzTexts(f *testing.F) {
	f.Add("kitten", "sitting", 1, 2, "xy")
	f.Add("ab", "ba", 0, 0, "\xff")
	f.Add("a\xff", "世", -1, 3, "")
	f.Fuzz(func(t *testing.T, a, b string, at, erase int, insert string) {
		if len(a) > 300 || len(b) > 300 {
			return
		}
		switch {
		case !utf8.ValidString(a):
			wantNoPair(t, a, b, 0, api.ErrText)
		case !utf8.ValidString(b):
			wantNoPair(t, a, b, 1, api.ErrText)
		default:
			wantByTheWords(t, a, b)
			wantLaws(t, a, b)
		}
		wantEditsByTheWords(t, a, row(ed(at, erase, insert)))
		wantEditsByTheWords(t, a, row(ed(0, 0, b), ed(at, erase, insert), ed(erase, at, insert)))
	})
}
