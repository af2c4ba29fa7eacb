package audit_test

import (
	"slices"
	"testing"

	"barrow/api"
	"barrow/audit"
	"barrow/replica"
)

// Each row of the chapter's runs.

func TestRunOrderedAndFirst(t *testing.T) {
	a, b := row("0.1 0.2"), row("0.2 0.3 0.1")
	wantOrdered(t, false, a, b)
	wantFirst(t, a, b, id(0, 0, 1), id(0, 0, 2))
}

func TestRunOrderedOfFew(t *testing.T) {
	wantOrdered(t, true)
	wantOrdered(t, true, row("0.1 0.2"))
	wantOrdered(t, false, row("0.1 0.1"))
}

func TestRunShared(t *testing.T) {
	wantShared(t, row("0.1 0.2"), row("0.2 0.3"), 1)
}

func TestRunAuthorsAndRuns(t *testing.T) {
	l := slices.Concat(typed(0, "ab"), typed(2, "c"))
	wantAuthors(t, l, 2, 0, 1)
	wantRuns(t, l, run("ab", 0), run("c", 2))
}

func TestRunAgree(t *testing.T) {
	l := sites(t, config(2, 8, 4, 4))
	ok(t, l[0].Insert(0, "ab"))
	wantAgree(t, l[0], l[0], true, true)
	wantAgree(t, l[0], l[1], false, false)
}

func TestRunLags(t *testing.T) {
	l := sites(t, config(2, 8, 4, 4))
	ok(t, l[0].Insert(0, "a"))
	first := l[0].Out()[0]
	ok(t, l[0].Insert(1, "b"))
	ok(t, l[1].Take(first.Bytes))
	ok(t, l[1].Insert(0, "c"))
	if l[0].Clock() != (api.Clock{2, 0}) || l[1].Clock() != (api.Clock{1, 1}) {
		t.Fatalf("the clocks are %v and %v", l[0].Clock(), l[1].Clock())
	}
	wantRows(t, audit.Lags(l), [][]int{{0, 1}, {1, 0}})
}

func TestRunCausal(t *testing.T) {
	first, second := act(api.Insert, 0, 0, 1), act(api.Insert, 1, 0, 2, 1)
	wantCausal(t, true, first, second)
	wantCausal(t, false, second)
}

func TestRunSound(t *testing.T) {
	for _, r := range sites(t, config(2, 8, 4, 4)) {
		wantFlaws(t, r)
	}
}

// Each of the chapter's examples.

func TestExamples(t *testing.T) {
	if got := audit.Table([]*replica.Replica{}); len(got) != 0 {
		t.Errorf("Table of no replicas is %v", got)
	}
	l := sites(t, config(2, 8, 4, 4))
	ok(t, l[0].Propose())
	ok(t, l[1].Take(l[0].Out()[0].Bytes))
	ok(t, l[0].Take(l[1].Out()[0].Bytes))
	if l[0].Epoch() != 1 || l[1].Epoch() != 0 {
		t.Fatal("they are in one epoch")
	}
	wantAgree(t, l[0], l[1], false, false)
	if got := audit.Runs(hidden(typed(0, "ab"), 1)); len(got) != 0 {
		t.Errorf("Runs of no live elements are %v", got)
	}
}
