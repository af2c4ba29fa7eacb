package audit_test

import (
	"bytes"
	"slices"
	"testing"

	"barrow/api"
	"barrow/audit"
	"barrow/image"
	"barrow/replica"
)

// R2: what is handed in is neither changed nor kept, what is answered is new.

// roomy is a list with two more behind its end.
func roomy[E any](l []E, spare E) []E {
	return append(slices.Clone(l), spare, spare)[: len(l) : len(l)+2]
}

// whole is a list with its spare room.
func whole[E any](l []E) []E { return slices.Clone(l[:cap(l)]) }

// scrawl writes over a list, its spare room too.
func scrawl[E any](l []E, with E) {
	l = l[:cap(l)]
	for i := range l {
		l[i] = with
	}
}

func TestListsStay(t *testing.T) {
	spare := api.Element{ID: id(0, 0, 1), Char: 'S'}
	a := roomy(slices.Concat(typed(1, "ab"), hidden(typed(2, "c"), 1), typed(3, "def")), spare)
	b := roomy(slices.Concat(typed(3, "fed"), typed(1, "b")), spare)
	beforeA, beforeB := whole(a), whole(b)
	l := [][]api.Element{a, b, a}
	audit.Ordered(l...)
	audit.First(a, b)
	audit.First(b, a)
	audit.Shared(a, b)
	audit.Authors(a)
	audit.Runs(a)
	if !slices.Equal(whole(a), beforeA) || !slices.Equal(whole(b), beforeB) || &l[0][0] != &a[0] || &l[1][0] != &b[0] {
		t.Errorf("the lists have become %v and %v", whole(a), whole(b))
	}
	acts := roomy([]api.Act{act(api.Insert, 0, 0, 1), act(api.Insert, 0, 1, 1), act(api.Insert, 1, 0, 2, 1)}, act(api.Erase, 9, 9, 9))
	before := whole(acts)
	audit.Causal(acts)
	audit.Causal(acts[1:])
	if !slices.Equal(whole(acts), before) {
		t.Errorf("the acts have become %v", whole(acts))
	}
}

// Lists of a piece end where they end.
func TestPieces(t *testing.T) {
	all := row("0.1 0.2 0.1 1.1")
	wantOrdered(t, true, all[:2], all[:1])
	wantOrdered(t, true, all[:2], all[3:])
	wantShared(t, all[:1], all[3:], 0)
	wantRuns(t, all[1:3], run("aa", 0))
	acts := []api.Act{act(api.Insert, 0, 0, 1), act(api.Insert, 0, 0, 2, 1), act(api.Insert, 0, 0, 9)}
	wantCausal(t, true, acts[:2]...)
}

// busy are replicas of which each keeps something of all that there is.
func busy(t testing.TB) []*replica.Replica {
	t.Helper()
	l := sites(t, config(3, 90, 4, 4))
	ok(t, l[0].Insert(0, "abc"))
	carry(t, l)
	ok(t, l[1].Erase(1, 1))
	ok(t, l[0].Insert(2, "x"))
	ok(t, l[0].Undo())
	ok(t, l[2].Propose())
	told(t, l[2], 1, act(api.Insert, 0, 1, 5, 0, 4))
	return l
}

func TestReplicasStay(t *testing.T) {
	l := busy(t)
	var before [][]byte
	for _, r := range l {
		before = append(before, image.Save(r))
	}
	list := roomy([]*replica.Replica{l[0], nil, l[1], l[2], l[0]}, l[1])
	same := whole(list)
	audit.Table(list)
	audit.Lags(list)
	audit.Table(list)
	for _, r := range l {
		audit.Agree(r, l[0])
		if err := audit.Sound(r); err != nil {
			t.Error(err)
		}
	}
	if !slices.Equal(whole(list), same) {
		t.Error("the list has changed")
	}
	for i, r := range l {
		if !bytes.Equal(image.Save(r), before[i]) {
			t.Errorf("replica %d has changed", i)
		}
	}
}

// wantApart: no row of an answer shares its room with another one, or with
// another answer's.
func wantApart[E comparable](t *testing.T, tell func() [][]E, other E) {
	t.Helper()
	one, two := tell(), tell()
	want := make([][]E, len(one))
	for i := range one {
		want[i] = slices.Clone(one[i])
	}
	for i := range one {
		scrawl(one[i], other)
		for j := i + 1; j < len(one); j++ {
			if !slices.Equal(one[j], want[j]) {
				t.Fatalf("row %d stands in row %d", i, j)
			}
		}
	}
	wantRows(t, two, want)
	scrawl(one, nil)
	wantRows(t, two, want)
	wantRows(t, tell(), want)
}

func TestRowsAreApart(t *testing.T) {
	l := append(busy(t), nil)
	wantApart(t, func() [][]bool { return audit.Table(l) }, true)
	wantApart(t, func() [][]bool { return audit.Table(l) }, false)
	wantApart(t, func() [][]int { return audit.Lags(l) }, 77)
}

func TestRunsAreOnesOwn(t *testing.T) {
	l := slices.Concat(typed(0, "ab"), typed(1, "c"), typed(0, "de"))
	one, two := audit.Runs(l), audit.Runs(l)
	scrawl(l, api.Element{Char: '!'})
	want := []api.Link{run("ab", 0), run("c", 1), run("de", 0)}
	if !slices.Equal(one, want) {
		t.Errorf("Runs have become %v", one)
	}
	scrawl(one, run("!", 9))
	if !slices.Equal(two, want) {
		t.Errorf("Runs have become %v", two)
	}
}

// What was told of replicas stays as it was told.
func TestToldStays(t *testing.T) {
	l := busy(t)
	table, lags := audit.Table(l), audit.Lags(l)
	again, anew := audit.Table(l), audit.Lags(l)
	told(t, l[0], 1, act(api.Restore, 0, 1, 1, 3))
	refused := audit.Sound(l[0])
	wantRefusal(t, refused, 1, api.ErrForm)
	text := refused.Error()
	told(t, l[0], 2, act(api.Erase, 0, 2, 1, 3, 1))
	if audit.Sound(l[0]) != nil || refused.Error() != text {
		t.Errorf("refused is %v, was %v", refused, text)
	}
	wantRows(t, table, again)
	wantRows(t, lags, anew)
}
