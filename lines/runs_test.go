package lines_test

import (
	"slices"
	"strings"
	"testing"

	"barrow/api"
	"barrow/lines"
	"barrow/model"
)

// Each row of the chapter's table.
func TestRuns(t *testing.T) {
	each(t, "ab\n\nc", func(t *testing.T, m *model.Model) {
		if got := lines.Count(m); got != 3 {
			t.Errorf("Count is %d", got)
		}
		runStarts(t, m)
		runLengths(t, m)
		runWheres(t, m)
		runPlaces(t, m)
	})
	each(t, "don't 12x!", runArounds)
	for s, want := range map[string][]string{"": {""}, "a\n": {"a", ""}, "\n\n": {"", "", ""}} {
		if got := lines.Split(s); !slices.Equal(got, want) {
			t.Errorf("Split(%q) is %q", s, got)
		}
	}
}

func runStarts(t *testing.T, m *model.Model) {
	for line, want := range []int{0, 3, 4} {
		p, err := lines.Start(m, line)
		wantInt(t, "Start", p, err, want)
	}
	for _, line := range []int{3, -1} {
		_, err := lines.Start(m, line)
		wantRefusal(t, err, "Start", line, api.ErrRange)
	}
}

func runLengths(t *testing.T, m *model.Model) {
	for line, want := range []int{2, 0, 1} {
		n, err := lines.Length(m, line)
		wantInt(t, "Length", n, err, want)
	}
}

func runWheres(t *testing.T, m *model.Model) {
	for p, want := range map[int][2]int{0: {0, 0}, 2: {0, 2}, 3: {1, 0}, 4: {2, 0}, 5: {2, 1}} {
		line, column, err := lines.Where(m, p)
		wantPair(t, "Where", line, column, err, want)
	}
	_, _, err := lines.Where(m, 6)
	wantRefusal(t, err, "Where", 6, api.ErrRange)
}

func runPlaces(t *testing.T, m *model.Model) {
	for _, x := range [][3]int{{0, 9, 2}, {1, 1, 3}, {2, -4, 4}} {
		p, err := lines.Place(m, x[0], x[1])
		wantInt(t, "Place", p, err, x[2])
	}
	_, err := lines.Place(m, 3, 0)
	wantRefusal(t, err, "Place", 3, api.ErrRange)
}

func runArounds(t *testing.T, m *model.Model) {
	for p, want := range map[int][2]int{0: {0, 3}, 3: {0, 3}, 4: {4, 5}, 5: {4, 5}, 6: {6, 9}, 9: {6, 9}, 10: {10, 10}} {
		from, to, err := lines.Around(m, p)
		wantPair(t, "Around", from, to, err, want)
	}
}

func TestExamples(t *testing.T) {
	each(t, "", func(t *testing.T, m *model.Model) {
		if got := lines.Count(m); got != 1 {
			t.Errorf("Count is %d", got)
		}
		n, err := lines.Length(m, 0)
		wantInt(t, "Length", n, err, 0)
	})
	each(t, "\na\n\nb\n", func(t *testing.T, m *model.Model) {
		for line := range lines.Count(m) {
			if s, err := lines.Text(m, line); strings.Contains(s, "\n") || err != nil {
				t.Errorf("Text(%d) is %q, %v", line, s, err)
			}
		}
	})
	erased := live("a\nb")
	erased[1].Hides = 1
	m := made(t, erased)
	s, err := lines.Text(m, 0)
	wantText(t, "Text", s, err, "ab")
	if got := lines.Count(m); got != 1 {
		t.Errorf("Count is %d", got)
	}
}
