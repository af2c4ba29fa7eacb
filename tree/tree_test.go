package tree_test

import (
	"math"
	"slices"
	"testing"

	"barrow/api"
	"barrow/fault"
	"barrow/tree"
)

const (
	most  = math.MaxInt
	least = math.MinInt
)

// thing has a name, and weighs what it says.
type thing struct {
	name        int
	live, lines int
}

func (x thing) Weight() api.Weight { return api.Weight{Live: x.live, Lines: x.lines} }

// lives are things named 0, 1 and so on, by their Live; every second live one is a line, too.
func lives(weights ...int) []thing {
	var l []thing
	for i, w := range weights {
		l = append(l, thing{name: i, live: w, lines: w / 2})
	}
	return l
}

// ones are n things that weigh 1, named from first on.
func ones(first, n int) []thing {
	var l []thing
	for i := range n {
		l = append(l, thing{name: first + i, live: 1})
	}
	return l
}

func made(t testing.TB, chunk int, l []thing) *tree.Tree[thing] {
	t.Helper()
	x, err := tree.New[thing](chunk)
	if err != nil {
		t.Fatal(err)
	}
	if err := x.Insert(0, l...); err != nil {
		t.Fatal(err)
	}
	return x
}

func row(x *tree.Tree[thing]) []thing {
	var l []thing
	for _, e := range x.All() {
		l = append(l, e)
	}
	return l
}

func wantRefusal(t testing.TB, err error, call string, at int, why error) {
	t.Helper()
	f, ok := err.(*fault.Fault)
	if !ok || *f != (fault.Fault{Layer: "tree", Call: call, At: at, Why: why}) {
		t.Errorf("the error is %v, not tree.%s at %d: %v", err, call, at, why)
	}
}

func wantDone(t testing.TB, err error) {
	t.Helper()
	if err != nil {
		t.Errorf("refused: %v", err)
	}
}

func wantRow(t testing.TB, x *tree.Tree[thing], want []thing) {
	t.Helper()
	if got := row(x); !slices.Equal(got, want) {
		t.Errorf("the row is %v, not %v", got, want)
	}
	if x.Len() != len(want) {
		t.Errorf("Len is %d, not %d", x.Len(), len(want))
	}
	var all api.Weight
	for _, e := range want {
		all.Live += e.live
		all.Lines += e.lines
	}
	if x.Weight() != all {
		t.Errorf("Weight is %v, not %v", x.Weight(), all)
	}
}

// wantChunks holds the leaves against the words of P4.5.
func wantChunks(t testing.TB, x *tree.Tree[thing], chunk int) {
	t.Helper()
	c := x.Chunks()
	sum := 0
	for i, n := range c {
		sum += n
		if n < 1 || n > chunk {
			t.Errorf("leaf %d of %v has not 1 to %d", i, c, chunk)
		}
		if i > 0 && c[i-1]+n <= chunk/2 {
			t.Errorf("leaves %d and %d of %v are too short together for %d", i-1, i, c, chunk)
		}
	}
	if sum != x.Len() {
		t.Errorf("the leaves %v have %d elements, not %d", c, sum, x.Len())
	}
}

// P4.1

func TestNew(t *testing.T) {
	for chunk := 2; chunk <= api.MaxChunk; chunk++ {
		x, err := tree.New[thing](chunk)
		if err != nil || x == nil {
			t.Fatalf("New(%d) is refused: %v", chunk, err)
		}
		wantRow(t, x, nil)
		if len(x.Chunks()) != 0 {
			t.Errorf("an empty row has the leaves %v", x.Chunks())
		}
	}
}

func TestNewRefuses(t *testing.T) {
	for _, chunk := range []int{least, -64, -2, -1, 0, 1, 65, 66, 128, most} {
		x, err := tree.New[thing](chunk)
		wantRefusal(t, err, "New", max(chunk, -1), api.ErrArg)
		if x != nil {
			t.Errorf("New(%d) answers a tree beside its refusal", chunk)
		}
	}
}

func TestLenAndWeight(t *testing.T) {
	x := made(t, 4, lives(1, 0, 3, 0, 7, 2))
	if x.Len() != 6 || x.Weight() != (api.Weight{Live: 13, Lines: 5}) {
		t.Errorf("Len is %d, Weight is %v", x.Len(), x.Weight())
	}
	nothing := made(t, 4, lives(0, 0, 0, 0, 0, 0, 0))
	if nothing.Len() != 7 || nothing.Weight() != (api.Weight{}) {
		t.Errorf("Len is %d, Weight is %v", nothing.Len(), nothing.Weight())
	}
	// The two numbers of a weight have nothing to do with each other.
	apart := made(t, 2, []thing{{live: 0, lines: 5}, {live: 1 << 40, lines: 0}, {live: 2, lines: 1 << 41}})
	if apart.Weight() != (api.Weight{Live: 1<<40 + 2, Lines: 1<<41 + 5}) {
		t.Errorf("Weight is %v", apart.Weight())
	}
}

// P4.2

func TestAtAndSet(t *testing.T) {
	for _, chunk := range []int{2, 3, 5, 64} {
		l := lives(1, 0, 2, 3, 0, 0, 1, 5, 4, 1, 0)
		x := made(t, chunk, l)
		for i, want := range l {
			if got, err := x.At(i); got != want || err != nil {
				t.Errorf("At(%d) is %v, %v", i, got, err)
			}
		}
		for i := range l {
			e := thing{name: 100 + i, live: 10 - i, lines: i}
			l[i] = e
			wantDone(t, x.Set(i, e))
			wantRow(t, x, l)
		}
	}
}

func TestPlacesThatAreNotThere(t *testing.T) {
	l := lives(1, 1, 0, 1, 2)
	for _, places := range [][]thing{nil, l} {
		x := made(t, 2, places)
		for _, i := range []int{least, -2, -1, len(places), len(places) + 1, 1 << 40, most} {
			got, err := x.At(i)
			wantRefusal(t, err, "At", max(i, -1), api.ErrRange)
			if got != (thing{}) {
				t.Errorf("At(%d) answers %v beside its refusal", i, got)
			}
			wantRefusal(t, x.Set(i, thing{live: 9}), "Set", max(i, -1), api.ErrRange)
			if i == len(places) {
				continue
			}
			wantRefusal(t, x.Insert(i, thing{live: 9}), "Insert", max(i, -1), api.ErrRange)
			wantRefusal(t, x.Insert(i), "Insert", max(i, -1), api.ErrRange)
			wantRefusal(t, x.Remove(i, 0), "Remove", max(i, -1), api.ErrRange)
			wantRefusal(t, x.Remove(i, 1), "Remove", max(i, -1), api.ErrRange)
			w, err := x.Before(i)
			wantRefusal(t, err, "Before", max(i, -1), api.ErrRange)
			if w != (api.Weight{}) {
				t.Errorf("Before(%d) answers %v beside its refusal", i, w)
			}
		}
		wantRow(t, x, places)
	}
}

func TestInsert(t *testing.T) {
	for _, chunk := range []int{2, 3, 4, 64} {
		for size := range 14 {
			for at := range size + 1 {
				for _, n := range []int{0, 1, 2, 3, 9, 130} {
					l, more := ones(0, size), ones(1000, n)
					x := made(t, chunk, l)
					wantDone(t, x.Insert(at, more...))
					wantRow(t, x, slices.Insert(l, at, more...))
					wantChunks(t, x, chunk)
				}
			}
		}
	}
}

func TestInsertOfNone(t *testing.T) {
	x := made(t, 4, ones(0, 3))
	for i := range 4 {
		wantDone(t, x.Insert(i))
		wantDone(t, x.Insert(i, []thing{}...))
	}
	wantRow(t, x, ones(0, 3))
	empty := made(t, 4, nil)
	wantDone(t, empty.Insert(0))
	wantRow(t, empty, nil)
}

func TestInsertKeepsNoList(t *testing.T) {
	for _, n := range []int{1, 2, 3, 4, 5, 40} {
		kept := append(ones(0, n), thing{name: 77}, thing{name: 78})
		l := kept[:n]
		x := made(t, 4, nil)
		wantDone(t, x.Insert(0, l...))
		wantDone(t, x.Insert(1, thing{name: 500}))
		wantDone(t, x.Set(0, thing{name: 501}))
		wantDone(t, x.Insert(x.Len(), thing{name: 502}))
		if !slices.Equal(kept, append(ones(0, n), thing{name: 77}, thing{name: 78})) {
			t.Errorf("what was handed in has become %v", kept)
		}
		before := row(x)
		for i := range kept {
			kept[i] = thing{name: -1, live: 9}
		}
		wantRow(t, x, before)
	}
}

func TestRemove(t *testing.T) {
	for _, chunk := range []int{2, 3, 4, 64} {
		for _, size := range []int{0, 1, 2, 5, 13, 140} {
			for at := range size + 1 {
				for n := range min(size-at, 20) + 1 {
					l := ones(0, size)
					x := made(t, chunk, l)
					wantDone(t, x.Remove(at, n))
					wantRow(t, x, slices.Delete(l, at, at+n))
					wantChunks(t, x, chunk)
				}
			}
		}
	}
}

func TestRemoveRefuses(t *testing.T) {
	x := made(t, 3, ones(0, 7))
	for i := range 8 {
		for _, n := range []int{least, -8, -1, 8 - i, 9 - i, 1 << 40, most - 7, most - 1, most} {
			wantRefusal(t, x.Remove(i, n), "Remove", i, api.ErrRange)
		}
	}
	wantRefusal(t, x.Remove(8, -1), "Remove", 8, api.ErrRange)
	wantRefusal(t, x.Remove(9, -2), "Remove", 9, api.ErrRange)
	wantRefusal(t, x.Remove(-1, 2), "Remove", -1, api.ErrRange)
	wantRow(t, x, ones(0, 7))
}

// P4.3

func TestBefore(t *testing.T) {
	for _, chunk := range []int{2, 3, 64} {
		l := lives(0, 2, 0, 0, 5, 1, 1, 0, 4, 0)
		x := made(t, chunk, l)
		var sum api.Weight
		for i := range len(l) + 1 {
			if got, err := x.Before(i); got != sum || err != nil {
				t.Errorf("Before(%d) is %v, %v, not %v", i, got, err, sum)
			}
			if i < len(l) {
				sum.Live += l[i].live
				sum.Lines += l[i].lines
			}
		}
	}
	if got, err := made(t, 2, nil).Before(0); got != (api.Weight{}) || err != nil {
		t.Errorf("Before(0) of an empty row is %v, %v", got, err)
	}
}

func TestFind(t *testing.T) {
	for _, chunk := range []int{2, 3, 64} {
		x := made(t, chunk, lives(0, 2, 0, 0, 5, 1, 1, 0, 4, 0))
		for live, want := range []int{1, 1, 4, 4, 4, 4, 4, 5, 6, 8, 8, 8, 8} {
			if got, err := x.Find(live); got != want || err != nil {
				t.Errorf("Find(%d) is %d, %v, not %d", live, got, err, want)
			}
		}
		for line, want := range []int{1, 4, 4, 8, 8} {
			if got, err := x.FindLine(line); got != want || err != nil {
				t.Errorf("FindLine(%d) is %d, %v, not %d", line, got, err, want)
			}
		}
		for _, live := range []int{least, -2, -1, 13, 14, most} {
			got, err := x.Find(live)
			wantRefusal(t, err, "Find", max(live, -1), api.ErrRange)
			if got != 0 {
				t.Errorf("Find(%d) answers %d beside its refusal", live, got)
			}
		}
		for _, line := range []int{least, -2, -1, 5, 6, most} {
			got, err := x.FindLine(line)
			wantRefusal(t, err, "FindLine", max(line, -1), api.ErrRange)
			if got != 0 {
				t.Errorf("FindLine(%d) answers %d beside its refusal", line, got)
			}
		}
	}
}

func TestFindWhereNothingWeighs(t *testing.T) {
	for _, l := range [][]thing{nil, lives(0), lives(0, 0, 0, 0, 0)} {
		x := made(t, 2, l)
		_, err := x.Find(0)
		wantRefusal(t, err, "Find", 0, api.ErrRange)
		_, err = x.FindLine(0)
		wantRefusal(t, err, "FindLine", 0, api.ErrRange)
	}
}

func TestFindOfGreatWeights(t *testing.T) {
	x := made(t, 2, []thing{{live: 1 << 60}, {live: 0, lines: 1 << 61}, {live: 1 << 61}, {live: 1 << 60, lines: 1 << 61}})
	for _, c := range []struct{ live, want int }{
		{0, 0}, {1<<60 - 1, 0}, {1 << 60, 2}, {1<<60 + 1<<61 - 1, 2}, {1<<60 + 1<<61, 3}, {1<<62 - 1, 3},
	} {
		if got, err := x.Find(c.live); got != c.want || err != nil {
			t.Errorf("Find(%d) is %d, %v", c.live, got, err)
		}
	}
	for _, c := range []struct{ line, want int }{{0, 1}, {1<<61 - 1, 1}, {1 << 61, 3}, {1<<62 - 1, 3}} {
		if got, err := x.FindLine(c.line); got != c.want || err != nil {
			t.Errorf("FindLine(%d) is %d, %v", c.line, got, err)
		}
	}
	_, err := x.Find(1 << 62)
	wantRefusal(t, err, "Find", 1<<62, api.ErrRange)
}

// P4.4

func TestAllTellsNumbers(t *testing.T) {
	l := ones(50, 23)
	x := made(t, 3, l)
	all := x.All()
	for range 2 {
		next := 0
		for i, e := range all {
			if i != next || e != l[i] {
				t.Errorf("All tells %d, %v", i, e)
			}
			next++
		}
		if next != 23 {
			t.Errorf("All tells %d elements", next)
		}
	}
	for range made(t, 3, nil).All() {
		t.Error("All of an empty row tells an element")
	}
}

func TestAllStopsAnywhere(t *testing.T) {
	for _, chunk := range []int{2, 3, 64} {
		x := made(t, chunk, ones(0, 17))
		for stop := range 17 {
			told := 0
			x.All()(func(i int, e thing) bool {
				told++
				return i != stop
			})
			if told != stop+1 {
				t.Errorf("a range that stops at %d is told %d", stop, told)
			}
		}
	}
}

func TestAllIsOfTheRowWhenItIsRanged(t *testing.T) {
	x := made(t, 3, ones(0, 8))
	all := x.All()
	wantDone(t, x.Remove(2, 5))
	wantDone(t, x.Set(0, thing{name: 40}))
	wantDone(t, x.Insert(1, ones(60, 7)...))
	var got []thing
	for _, e := range all {
		got = append(got, e)
	}
	if !slices.Equal(got, row(x)) || len(got) != 10 {
		t.Errorf("an iterator that was made earlier tells %v", got)
	}
}

func TestAllSeesNoChangeInItsMidst(t *testing.T) {
	for _, chunk := range []int{2, 4, 64} {
		for moment := range 9 {
			l := ones(0, 9)
			x := made(t, chunk, l)
			var outer, within []thing
			for i, e := range x.All() {
				outer = append(outer, e)
				if i != moment {
					continue
				}
				for k := range 9 {
					wantDone(t, x.Set(k, thing{name: 900 + k}))
				}
				wantDone(t, x.Insert(4, ones(300, 20)...))
				wantDone(t, x.Remove(0, 6))
				within = row(x)
				wantDone(t, x.Remove(0, x.Len()))
			}
			if !slices.Equal(outer, l) {
				t.Errorf("the range saw %v", outer)
			}
			if len(within) != 23 || within[0].name != 302 {
				t.Errorf("a new range in its midst saw %v", within)
			}
			wantRow(t, x, nil)
		}
	}
}

// P4.5

func TestChunksAtEveryLength(t *testing.T) {
	for chunk := 2; chunk <= api.MaxChunk; chunk++ {
		for _, n := range []int{1, 2, chunk - 1, chunk, chunk + 1, 2*chunk - 1, 2 * chunk, 2*chunk + 1, 10*chunk + 1} {
			wantChunks(t, made(t, chunk, ones(0, n)), chunk)
		}
		back, ahead := made(t, chunk, nil), made(t, chunk, nil)
		for i := range 3 * chunk {
			wantDone(t, back.Insert(i, thing{name: i}))
			wantChunks(t, back, chunk)
			wantDone(t, ahead.Insert(0, thing{name: i}))
			wantChunks(t, ahead, chunk)
		}
		for back.Len() > 0 {
			wantDone(t, back.Remove(back.Len()/2, 1))
			wantChunks(t, back, chunk)
			wantDone(t, ahead.Remove(0, 1))
			wantChunks(t, ahead, chunk)
		}
	}
}

func TestChunksWhereLeavesAreThinnedOut(t *testing.T) {
	for _, chunk := range []int{2, 3, 4, 5, 8, 63, 64} {
		x := made(t, chunk, ones(0, 20*chunk))
		// Of every place one is left, so all leaves become short.
		for i := 0; i < x.Len(); i++ {
			wantDone(t, x.Remove(i, min(x.Len()-i, chunk-1)))
			wantChunks(t, x, chunk)
		}
	}
}

func TestChunksIsNewMemory(t *testing.T) {
	x := made(t, 4, ones(0, 30))
	c := x.Chunks()
	kept := slices.Clone(c)
	for i := range c {
		c[i] = -1
	}
	if !slices.Equal(x.Chunks(), kept) {
		t.Errorf("Chunks are %v, not %v", x.Chunks(), kept)
	}
}

// P4.6

// counted counts how often its weight is asked.
type counted struct{ asked *int }

func (c counted) Weight() api.Weight {
	*c.asked++
	return api.Weight{Live: 1, Lines: 1}
}

func TestWork(t *testing.T) {
	for _, chunk := range []int{2, 16, 64} {
		x, err := tree.New[counted](chunk)
		wantDone(t, err)
		asked := 0
		l := slices.Repeat([]counted{{&asked}}, 100000)
		wantDone(t, x.Insert(0, l...))
		bound := 8*chunk + 17
		for k := range 2000 {
			i := k * 7919 % x.Len()
			for name, call := range map[string]func() error{
				"At":       func() error { _, err := x.At(i); return err },
				"Set":      func() error { return x.Set(i, l[0]) },
				"Before":   func() error { _, err := x.Before(i); return err },
				"Find":     func() error { _, err := x.Find(i); return err },
				"FindLine": func() error { _, err := x.FindLine(i); return err },
				"Insert":   func() error { return x.Insert(i, l[0]) },
				"Remove":   func() error { return x.Remove(i, 1) },
			} {
				asked = 0
				wantDone(t, call())
				if asked > bound {
					t.Fatalf("%s(%d) of chunk %d has looked at %d elements", name, i, chunk, asked)
				}
			}
		}
		asked = 0
		wantDone(t, x.Insert(50000, l[:3000]...))
		if asked > bound+3000 {
			t.Errorf("Insert of 3000 has looked at %d elements", asked)
		}
		asked = 0
		wantDone(t, x.Remove(100, 90000))
		if asked > bound+90000 {
			t.Errorf("Remove of 90000 has looked at %d elements", asked)
		}
	}
}

// R1: what is not weighed rightly.

// odd is a pointer, so that it may be nil, and its weight may change.
type odd struct{ live, lines int }

func (o *odd) Weight() api.Weight { return api.Weight{Live: o.live, Lines: o.lines} }

func askAll[E tree.Weighed](x *tree.Tree[E]) {
	var e E
	for _, i := range []int{least, -1, 0, 1, 2, 3, 4, 7, 20, 63, 64, 1 << 40, most - 1, most} {
		e, _ = x.At(i)
		x.Before(i)
		x.Find(i)
		x.FindLine(i)
		x.Set(i, e)
		x.Insert(i, e, e, e)
		x.Remove(i, 1)
	}
	for range x.All() {
	}
	x.Chunks()
}

func TestNothingPanics(t *testing.T) {
	for _, chunk := range []int{2, 3, 64} {
		numbers := []int{least, -1, 0, 1, 5, most, most, most, 1 << 62, -7}
		x, err := tree.New[*odd](chunk)
		wantDone(t, err)
		var l []*odd
		for i, n := range numbers {
			l = append(l, &odd{n, numbers[len(numbers)-1-i]}, nil)
		}
		wantDone(t, x.Insert(0, l...))
		askAll(x)
		for _, o := range l {
			if o != nil {
				o.live, o.lines = o.lines/3, 1
			}
		}
		askAll(x)
		if err := x.Remove(0, x.Len()); err != nil || x.Len() != 0 {
			t.Errorf("Remove of all: %v, %d are left", err, x.Len())
		}
		faces, err := tree.New[tree.Weighed](chunk)
		wantDone(t, err)
		wantDone(t, faces.Insert(0, nil, thing{live: 2}, nil, &odd{live: 1}, (*odd)(nil), nil))
		if i, err := faces.Find(2); i != 3 || err != nil || faces.Weight().Live != 3 {
			t.Errorf("Find(2) is %d, %v among elements that can't be asked", i, err)
		}
		askAll(faces)
	}
}

// R4

func TestTreesKnowNothingOfEachOther(t *testing.T) {
	a := made(t, 4, ones(0, 20))
	b := made(t, 4, ones(0, 20))
	wantDone(t, a.Remove(3, 9))
	wantDone(t, a.Set(0, thing{name: 70}))
	wantDone(t, a.Insert(5, ones(80, 3)...))
	wantRow(t, b, ones(0, 20))
}

// The chapter's table 'Runs', row by row.

func TestRuns(t *testing.T) {
	_, err := tree.New[thing](1)
	wantRefusal(t, err, "New", 1, api.ErrArg)
	_, err = tree.New[thing](65)
	wantRefusal(t, err, "New", 65, api.ErrArg)
	made(t, 2, nil)
	made(t, 64, nil)

	x := made(t, 4, nil)
	l := lives(1, 1, 0, 1)
	wantDone(t, x.Insert(0, l...))
	if x.Len() != 4 || x.Weight().Live != 3 {
		t.Errorf("Len is %d, Live is %d", x.Len(), x.Weight().Live)
	}
	for _, c := range []struct{ i, want int }{{0, 0}, {2, 2}, {3, 2}, {4, 3}} {
		if got, err := x.Before(c.i); got.Live != c.want || err != nil {
			t.Errorf("Before(%d) is %v, %v", c.i, got, err)
		}
	}
	_, err = x.Before(5)
	wantRefusal(t, err, "Before", 5, api.ErrRange)

	for _, c := range []struct{ live, want int }{{0, 0}, {1, 1}, {2, 3}} {
		if got, err := x.Find(c.live); got != c.want || err != nil {
			t.Errorf("Find(%d) is %d, %v", c.live, got, err)
		}
	}
	_, err = x.Find(3)
	wantRefusal(t, err, "Find", 3, api.ErrRange)
	_, err = x.Find(-1)
	wantRefusal(t, err, "Find", -1, api.ErrRange)

	wantRefusal(t, x.Insert(5, l[0]), "Insert", 5, api.ErrRange)
	wantRefusal(t, x.Insert(-1, l[0]), "Insert", -1, api.ErrRange)
	wantDone(t, x.Insert(4))
	wantRefusal(t, x.Remove(2, 3), "Remove", 2, api.ErrRange)
	wantRefusal(t, x.Remove(2, -1), "Remove", 2, api.ErrRange)
	wantDone(t, x.Remove(4, 0))
	wantRow(t, x, l)

	wantDone(t, x.Remove(1, 2))
	wantRow(t, x, []thing{l[0], l[3]})
	if !slices.Equal(x.Chunks(), []int{2}) {
		t.Errorf("Chunks are %v", x.Chunks())
	}

	twelve := made(t, 4, nil)
	for i := range 12 {
		wantDone(t, twelve.Insert(0, thing{name: i, live: 1}))
	}
	wantChunks(t, twelve, 4)
	if twelve.Len() != 12 {
		t.Errorf("Len is %d", twelve.Len())
	}
}

func TestRunsWithElements(t *testing.T) {
	x, err := tree.New[api.Element](4)
	wantDone(t, err)
	l := []api.Element{{Char: 'a'}, {Char: '\n'}, {Char: '\n', Hides: 1}, {Char: 'b', Hides: -2}}
	wantDone(t, x.Insert(0, l...))
	if x.Weight() != (api.Weight{Live: 3, Lines: 1}) {
		t.Errorf("Weight is %v", x.Weight())
	}
	if i, err := x.Find(2); i != 3 || err != nil {
		t.Errorf("Find(2) is %d, %v", i, err)
	}
	if i, err := x.FindLine(0); i != 1 || err != nil {
		t.Errorf("FindLine(0) is %d, %v", i, err)
	}
	_, err = x.FindLine(1)
	wantRefusal(t, err, "FindLine", 1, api.ErrRange)
}

func TestExamples(t *testing.T) {
	// 1.
	if c := made(t, 4, nil).Chunks(); len(c) != 0 {
		t.Errorf("an empty Tree's Chunks are %v", c)
	}
	// 2.
	x := made(t, 4, lives(3, 0, 1, 2, 7, 4, 4, 0, 1))
	if w, err := x.Before(x.Len()); w != x.Weight() || err != nil {
		t.Errorf("Before(Len) is %v, %v, not %v", w, err, x.Weight())
	}
	// 3.
	wantDone(t, x.Remove(0, x.Len()))
	if len(x.Chunks()) != 0 || x.Len() != 0 || x.Weight() != (api.Weight{}) {
		t.Errorf("Remove of all leaves %v", x.Chunks())
	}
	wantDone(t, x.Insert(0, ones(0, 9)...))
	wantRow(t, x, ones(0, 9))
}
