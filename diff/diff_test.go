package diff_test

import (
	"errors"
	"math"
	"slices"
	"strings"
	"testing"

	"barrow/api"
	"barrow/diff"
	"barrow/fault"
)

const (
	most  = math.MaxInt
	least = math.MinInt
)

// ed is an edit as the chapter writes it.
func ed(at, erase int, insert string) api.Edit {
	return api.Edit{At: at, Erase: erase, Insert: insert}
}

func row(l ...api.Edit) []api.Edit { return l }

// wrongTexts are no UTF-8, each for a reason of its own.
var wrongTexts = []string{
	"\xff", "a\xff", "\xffa", "\x80", "é\x80", "\xc3", "\xc0\x80", "\xe2\x82", "a\xed\xa0\x80b",
	"\xf4\x90\x80\x80", "\xf0\x82\x82\xac", "\xfe\xff",
}

func wantRefusal(t testing.TB, err error, call string, at int, why error) {
	t.Helper()
	f, ok := err.(*fault.Fault)
	if !ok || *f != (fault.Fault{Layer: "diff", Call: call, At: at, Why: why}) || !errors.Is(err, why) {
		t.Errorf("the error is %v, not that of %s at %d: %v", err, call, at, why)
	}
}

func wantEdits(t testing.TB, a, b string, want ...api.Edit) {
	t.Helper()
	if l, err := diff.Edits(a, b); err != nil || !slices.Equal(l, want) {
		t.Errorf("Edits(%.60q, %.60q) are %v, %v, not %v", a, b, l, err, want)
	}
}

func wantDistance(t testing.TB, a, b string, want int) {
	t.Helper()
	if d, err := diff.Distance(a, b); err != nil || d != want {
		t.Errorf("Distance(%.60q, %.60q) is %d, %v, not %d", a, b, d, err, want)
	}
}

func wantCommon(t testing.TB, a, b, want string) {
	t.Helper()
	if s, err := diff.Common(a, b); err != nil || s != want {
		t.Errorf("Common(%.60q, %.60q) is %.60q, %v, not %.60q", a, b, s, err, want)
	}
}

func wantApply(t testing.TB, a string, l []api.Edit, want string) {
	t.Helper()
	if s, err := diff.Apply(a, l); err != nil || s != want {
		t.Errorf("Apply(%.60q, %v) is %.60q, %v, not %.60q", a, l, s, err, want)
	}
}

func wantInvert(t testing.TB, a string, l []api.Edit, want ...api.Edit) {
	t.Helper()
	if back, err := diff.Invert(a, l); err != nil || !slices.Equal(back, want) {
		t.Errorf("Invert(%.60q, %v) is %v, %v, not %v", a, l, back, err, want)
	}
}

// wantNoPair: the calls that reckon two texts refuse these.
func wantNoPair(t testing.TB, a, b string, at int, why error) {
	t.Helper()
	d, err := diff.Distance(a, b)
	wantRefusal(t, err, "Distance", at, why)
	l, err := diff.Edits(a, b)
	wantRefusal(t, err, "Edits", at, why)
	s, err := diff.Common(a, b)
	wantRefusal(t, err, "Common", at, why)
	if d != 0 || len(l) != 0 || s != "" {
		t.Errorf("beside the error stand %d, %v, %.60q", d, l, s)
	}
}

// wantNoEdits: Apply and Invert refuse these.
func wantNoEdits(t testing.TB, a string, l []api.Edit, at int, why error) {
	t.Helper()
	s, err := diff.Apply(a, l)
	wantRefusal(t, err, "Apply", at, why)
	back, err := diff.Invert(a, l)
	wantRefusal(t, err, "Invert", at, why)
	if s != "" || len(back) != 0 {
		t.Errorf("beside the error stand %.60q, %v", s, back)
	}
}

// P15.1

func TestDistance(t *testing.T) {
	wantDistance(t, "", "", 0)
	wantDistance(t, "a", "", 1)
	wantDistance(t, "", "a", 1)
	wantDistance(t, "a", "a", 0)
	wantDistance(t, "a", "b", 2)
	wantDistance(t, "abc", "cba", 4)
	wantDistance(t, "abcde", "ace", 2)
	wantDistance(t, "aaaa", "aa", 2)
}

// Characters are counted, not bytes; each is alike to itself alone.
func TestCharactersCount(t *testing.T) {
	wantDistance(t, "é", "è", 2)
	wantDistance(t, "世界", "", 2)
	wantDistance(t, "", "\U0010ffff\ufffd\x00", 3)
	wantDistance(t, "e\u0301", "é", 3)
	wantEdits(t, "a世b", "a界b", ed(1, 1, "界"))
	wantEdits(t, "世世x", "世世y", ed(2, 1, "y"))
	wantEdits(t, "é😀", "é😀é", ed(2, 0, "é"))
	wantEdits(t, "a\x00b", "ab", ed(1, 1, ""))
	wantEdits(t, "a\nb", "a\r\nb", ed(1, 0, "\r"))
	wantEdits(t, "\ufffd", "\ufffd")
	wantCommon(t, "世界é", "x界yé", "界é")
}

// Where erasing a's and inserting b's character is as good, a's is erased first.
func TestErasedAheadOfInserted(t *testing.T) {
	wantEdits(t, "ab", "ba", ed(0, 1, ""), ed(1, 0, "a"))
	wantEdits(t, "ba", "ab", ed(0, 1, ""), ed(1, 0, "b"))
	wantEdits(t, "xay", "yax", ed(0, 2, ""), ed(1, 0, "ax"))
	wantCommon(t, "xay", "yax", "y")
	wantCommon(t, "ab", "ba", "b")
}

// Where inserting is better, b's is inserted.
func TestInsertedWhereThatIsLess(t *testing.T) {
	wantEdits(t, "abc", "xabc", ed(0, 0, "x"))
	wantEdits(t, "abc", "cabx", ed(0, 0, "c"), ed(3, 1, "x"))
	wantEdits(t, "ab", "cdab", ed(0, 0, "cd"))
}

// Where both are alike they go on, even if it were as short to go another way.
func TestAlikeGoOn(t *testing.T) {
	wantEdits(t, "a", "aa", ed(1, 0, "a"))
	wantEdits(t, "aa", "a", ed(1, 1, ""))
	wantEdits(t, "ab", "aab", ed(1, 0, "a"))
	wantEdits(t, "aab", "ab", ed(1, 1, ""))
	wantEdits(t, "xabab", "xab", ed(3, 2, ""))
}

// What goes and comes at one place is one edit.
func TestOneEditBetweenTwoPlaces(t *testing.T) {
	wantEdits(t, "abc", "xyz", ed(0, 3, "xyz"))
	wantEdits(t, "-abc-", "-xy-", ed(1, 3, "xy"))
	wantEdits(t, "1a2b3", "1x2yz3", ed(1, 1, "x"), ed(3, 1, "yz"))
	wantEdits(t, "abQ", "xbyaQ", ed(0, 1, "x"), ed(2, 0, "ya"))
}

// At counts what of b stands ahead: it is meant for the text as made so far.
func TestPlacesOfEdits(t *testing.T) {
	wantEdits(t, "abcdef", "bdf", ed(0, 1, ""), ed(1, 1, ""), ed(2, 1, ""))
	wantEdits(t, "bdf", "abcdefg", ed(0, 0, "a"), ed(2, 0, "c"), ed(4, 0, "e"), ed(6, 0, "g"))
	wantEdits(t, "xxxa", "ayyy", ed(0, 3, ""), ed(1, 0, "yyy"))
}

func TestNoEditIsEmpty(t *testing.T) {
	wantEdits(t, "", "")
	wantEdits(t, "a", "a")
	wantEdits(t, "héllo\n", "héllo\n")
	wantEdits(t, "ab", "a", ed(1, 1, ""))
	wantEdits(t, "ab", "b", ed(0, 1, ""))
}

// P15.2

func TestApply(t *testing.T) {
	wantApply(t, "", nil, "")
	wantApply(t, "abc", nil, "abc")
	wantApply(t, "abc", row(), "abc")
	wantApply(t, "abc", row(ed(0, 0, "x")), "xabc")
	wantApply(t, "abc", row(ed(3, 0, "x")), "abcx")
	wantApply(t, "abc", row(ed(0, 3, "")), "")
	wantApply(t, "abc", row(ed(1, 1, "xyz")), "axyzc")
	wantApply(t, "abc", row(ed(1, 2, "x")), "ax")
	wantApply(t, "héé", row(ed(1, 1, "世"), ed(2, 1, "")), "h世")
	wantApply(t, "", row(ed(0, 0, "\ufffd")), "\ufffd")
}

// Each edit is meant for what those ahead of it have made.
func TestApplyOneBehindTheOther(t *testing.T) {
	wantApply(t, "ab", row(ed(2, 0, "cd"), ed(4, 0, "e")), "abcde")
	wantApply(t, "ab", row(ed(0, 2, ""), ed(0, 0, "x"), ed(1, 0, "y")), "xy")
	wantApply(t, "ab", row(ed(0, 0, "xy"), ed(0, 4, "z")), "z")
	wantNoEdits(t, "ab", row(ed(0, 2, ""), ed(1, 0, "")), 1, api.ErrRange)
	wantNoEdits(t, "ab", row(ed(0, 0, "é"), ed(0, 4, "")), 1, api.ErrRange)
}

func TestApplyRefusesPlaces(t *testing.T) {
	for _, e := range row(
		ed(3, 0, ""), ed(3, 0, "x"), ed(-1, 0, ""), ed(most, 0, ""), ed(least, 0, ""),
		ed(0, 3, ""), ed(1, 2, ""), ed(2, 1, ""), ed(0, -1, ""), ed(2, -1, "x"),
		ed(1, most, ""), ed(0, least, ""), ed(2, least, ""), ed(-1, 1, ""), ed(-1, 2, ""), ed(3, -1, ""),
		ed(most, most, ""), ed(least, least, ""), ed(most, least, ""), ed(least, most, ""),
	) {
		wantNoEdits(t, "ab", row(e), 0, api.ErrRange)
		wantNoEdits(t, "éé", row(e), 0, api.ErrRange)
		wantNoEdits(t, "ab", row(ed(0, 1, "z"), ed(2, 0, ""), e, e), 2, api.ErrRange)
		// The place is asked ahead of the text.
		e.Insert = "\xff"
		wantNoEdits(t, "ab", row(e), 0, api.ErrRange)
	}
}

func TestApplyRefusesTexts(t *testing.T) {
	for _, s := range wrongTexts {
		wantNoEdits(t, "ab", row(ed(0, 0, s)), 0, api.ErrText)
		wantNoEdits(t, "ab", row(ed(2, 0, s)), 0, api.ErrText)
		wantNoEdits(t, "ab", row(ed(0, 2, ""), ed(0, 0, "x"), ed(1, 0, s)), 2, api.ErrText)
		// The first that is refused is told.
		wantNoEdits(t, "ab", row(ed(0, 0, ""), ed(1, 1, s), ed(9, 0, "")), 1, api.ErrText)
		wantNoEdits(t, "ab", row(ed(0, 0, ""), ed(9, 0, ""), ed(1, 1, s)), 1, api.ErrRange)
		// Two halves of a character are no texts.
		wantNoEdits(t, "ab", row(ed(0, 0, "\xc3"), ed(1, 0, "\xa9")), 0, api.ErrText)
	}
}

// The text is asked ahead of the edits.
func TestApplyRefusesTheText(t *testing.T) {
	for _, s := range wrongTexts {
		wantNoEdits(t, s, nil, 0, api.ErrText)
		wantNoEdits(t, s, row(ed(0, 0, "")), 0, api.ErrText)
		wantNoEdits(t, s, row(ed(0, 0, ""), ed(99, 0, "")), 0, api.ErrText)
		wantNoEdits(t, s, row(ed(-1, 0, "")), 0, api.ErrText)
	}
}

// P15.3

func TestCommon(t *testing.T) {
	wantCommon(t, "", "", "")
	wantCommon(t, "abc", "abc", "abc")
	wantCommon(t, "abc", "xyz", "")
	wantCommon(t, "abcbdab", "bdcaba", "bdab")
	wantCommon(t, "aab", "ab", "ab")
	wantCommon(t, "axbxc", "abc", "abc")
	wantCommon(t, "abc", "-a-b-c-", "abc")
}

func TestInvert(t *testing.T) {
	wantInvert(t, "abc", nil)
	wantInvert(t, "", nil)
	wantInvert(t, "abc", row(ed(0, 3, "")), ed(0, 0, "abc"))
	wantInvert(t, "", row(ed(0, 0, "世é")), ed(0, 2, ""))
	wantInvert(t, "aéc", row(ed(1, 2, "xyz")), ed(1, 3, "éc"))
}

// From the last to the first, each with what stood there when it was done.
func TestInvertOfSeveral(t *testing.T) {
	wantInvert(t, "abcd", row(ed(0, 1, ""), ed(0, 1, "xy"), ed(3, 1, "")), ed(3, 0, "d"), ed(0, 2, "b"), ed(0, 0, "a"))
	wantInvert(t, "ab", row(ed(2, 0, "cd"), ed(1, 2, "")), ed(1, 0, "bc"), ed(2, 2, ""))
}

// One for each of them, those that change nothing included.
func TestInvertOfNothing(t *testing.T) {
	wantInvert(t, "abc", row(ed(1, 0, ""), ed(3, 0, "")), ed(3, 0, ""), ed(1, 0, ""))
	wantInvert(t, "abc", row(ed(1, 1, "b")), ed(1, 1, "b"))
}

// Refusals of two texts.

func TestTextsThatAreNone(t *testing.T) {
	for _, s := range wrongTexts {
		for _, right := range []string{"", "x", "é"} {
			wantNoPair(t, s, right, 0, api.ErrText)
			wantNoPair(t, right, s, 1, api.ErrText)
		}
		for _, other := range wrongTexts {
			wantNoPair(t, s, other, 0, api.ErrText)
		}
		// The texts are asked ahead of the room.
		long := strings.Repeat("x", 1<<22+1)
		wantNoPair(t, s, long, 0, api.ErrText)
		wantNoPair(t, long, s, 1, api.ErrText)
		wantNoPair(t, long, long+s, 1, api.ErrText)
	}
}

// How long b may be is 2^22 divided by a's length, in characters.
func TestRoomOfPairs(t *testing.T) {
	const most = 1 << 22
	for _, n := range []int{1, 2, 3, 1000, 2047, 2048, 2049, 100_000, most/2 - 1, most/2 + 1, most - 1, most} {
		a := strings.Repeat("é", n)
		b := strings.Repeat("b", most/n)
		wantDistance(t, a, b, n+most/n)
		wantNoPair(t, a, b+"b", -1, api.ErrRoom)
		wantNoPair(t, a+"é", strings.Repeat("b", most/(n+1)+1), -1, api.ErrRoom)
	}
}

// Against a text without characters each is reckoned, of any length.
func TestNoRoomIsNeededForNothing(t *testing.T) {
	long := strings.Repeat("é", 1<<22+9)
	wantDistance(t, "", long, 1<<22+9)
	wantDistance(t, long, "", 1<<22+9)
	wantEdits(t, "", long, ed(0, 0, long))
	wantEdits(t, long, "", ed(0, 1<<22+9, ""))
	wantCommon(t, "", long, "")
	wantCommon(t, long, "", "")
	wantNoPair(t, long, "é", -1, api.ErrRoom)
	wantNoPair(t, "é", long, -1, api.ErrRoom)
}

// Apply and Invert know no such room.
func TestApplyOfLongTexts(t *testing.T) {
	long := strings.Repeat("é", 1<<22)
	l := row(ed(0, 0, long), ed(1, 1<<23-2, "x"))
	wantApply(t, long, l, "éxé")
	back, err := diff.Invert(long, l)
	if err != nil || len(back) != 2 {
		t.Fatalf("%d edits, %v", len(back), err)
	}
	wantApply(t, "éxé", back, long)
}
