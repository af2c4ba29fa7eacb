package diff_test

import (
	"slices"
	"strings"
	"testing"

	"barrow/api"
	"barrow/diff"
)

// Each row of the chapter's table.

func TestRunsOfEdits(t *testing.T) {
	wantEdits(t, "abc", "abc")
	wantEdits(t, "", "xy", ed(0, 0, "xy"))
	wantEdits(t, "xy", "", ed(0, 2, ""))

	wantEdits(t, "abcd", "axcd", ed(1, 1, "x"))
	wantEdits(t, "ab", "ba", ed(0, 1, ""), ed(1, 0, "a"))

	wantEdits(t, "kitten", "sitting", ed(0, 1, "s"), ed(4, 1, "i"), ed(6, 0, "g"))
	wantDistance(t, "kitten", "sitting", 5)

	wantDistance(t, "héllo", "hello", 2)
}

func TestRunsOfRefusals(t *testing.T) {
	_, err := diff.Edits("a\xff", "x")
	wantRefusal(t, err, "Edits", 0, api.ErrText)
	_, err = diff.Edits("x", "a\xff")
	wantRefusal(t, err, "Edits", 1, api.ErrText)
}

func TestRunsOfApply(t *testing.T) {
	wantApply(t, "ab", row(ed(2, 0, "c"), ed(0, 1, "")), "bc")
	wantNoEdits(t, "ab", row(ed(3, 0, "")), 0, api.ErrRange)
	wantNoEdits(t, "ab", row(ed(1, 2, "")), 0, api.ErrRange)
	wantNoEdits(t, "ab", row(ed(-1, 0, "")), 0, api.ErrRange)
}

func TestRunsOfCommonAndInvert(t *testing.T) {
	wantCommon(t, "abcd", "xbyd", "bd")
	wantInvert(t, "abc", row(ed(1, 1, "xy")), ed(1, 2, "b"))
}

// The chapter's examples.

func TestExample1(t *testing.T) {
	wantApply(t, "abc", row(ed(1, 0, "")), "abc")
	for _, a := range allTexts("ab", 4) {
		for _, b := range allTexts("ab", 4) {
			l, err := diff.Edits(a, b)
			if err != nil || slices.ContainsFunc(l, func(e api.Edit) bool { return e.Erase == 0 && e.Insert == "" }) {
				t.Errorf("Edits(%q, %q) are %v, %v", a, b, l, err)
			}
		}
	}
}

func TestExample2(t *testing.T) {
	for _, s := range []string{"x", "é", "世"} {
		long := strings.Repeat(s, 2048)
		wantDistance(t, long, long, 0)
		wantDistance(t, long, strings.Repeat("y", 2048), 4096)
		_, err := diff.Distance(long+s, long)
		wantRefusal(t, err, "Distance", -1, api.ErrRoom)
		_, err = diff.Distance(long, long+s)
		wantRefusal(t, err, "Distance", -1, api.ErrRoom)
	}
}

func TestExample3(t *testing.T) {
	for _, s := range []string{"", "a", "héllo", "\n", strings.Repeat("世", 1<<22+1)} {
		wantCommon(t, s, "", "")
		wantCommon(t, "", s, "")
	}
}
