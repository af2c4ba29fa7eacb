package audit_test

import (
	"errors"
	"math"
	"slices"
	"strconv"
	"strings"
	"testing"

	"barrow/api"
	"barrow/audit"
	"barrow/fault"
	"barrow/packet"
	"barrow/replica"
)

const (
	most  = math.MaxInt
	least = math.MinInt
)

func ok(t testing.TB, err error) {
	t.Helper()
	if err != nil {
		t.Fatal(err)
	}
}

func id(epoch, replica, number int) api.ID {
	return api.ID{Epoch: epoch, Replica: replica, Number: number}
}

// row is elements that are written as the chapter does, by replica and number.
func row(text string) (l []api.Element) {
	for _, word := range strings.Fields(text) {
		r, n, _ := strings.Cut(word, ".")
		replica, _ := strconv.Atoi(r)
		number, _ := strconv.Atoi(n)
		l = append(l, api.Element{ID: id(0, replica, number), Char: 'a'})
	}
	return l
}

// typed is elements of one replica, with a text's Chars.
func typed(replica int, text string) (l []api.Element) {
	for i, char := range []rune(text) {
		l = append(l, api.Element{ID: id(0, replica, i+1), Char: char})
	}
	return l
}

// hidden is elements of which each was erased more, or restored more.
func hidden(l []api.Element, hides int) []api.Element {
	l = slices.Clone(l)
	for i := range l {
		l[i].Hides = hides
	}
	return l
}

func config(replicas, model, batch, buffer int) api.Config {
	return api.Config{Replicas: replicas, Model: model, Batch: batch, Buffer: buffer}
}

// sites are all replicas of a session.
func sites(t testing.TB, c api.Config) (l []*replica.Replica) {
	t.Helper()
	for self := range c.Replicas {
		r, err := replica.New(c, self)
		ok(t, err)
		l = append(l, r)
	}
	return l
}

// carry brings what goes out of replicas to where it goes, till nothing does.
func carry(t testing.TB, l []*replica.Replica) {
	t.Helper()
	for moved := true; moved; {
		moved = false
		for _, r := range l {
			for _, p := range r.Out() {
				ok(t, l[p.To].Take(p.Bytes))
				moved = true
			}
		}
	}
}

// from is a replica of a Base, in an epoch, that has delivered some acts.
func from(t testing.TB, epoch int, base []api.Element, acts ...api.Act) *replica.Replica {
	t.Helper()
	r, err := replica.From(api.Parts{Config: config(3, 90, 4, 4), Epoch: epoch, Base: base, Acts: acts, Cursor: api.Anchor{Front: true}})
	ok(t, err)
	return r
}

func act(kind, at, replica, number int, clock ...int) api.Act {
	a := api.Act{Op: api.Op{Kind: kind, At: at, Replica: replica}, Number: number}
	if kind == api.Insert {
		a.Op.Char = 'x'
	}
	copy(a.Clock[:], clock)
	return a
}

// told brings a replica acts by a message that no replica has sent.
func told(t testing.TB, r *replica.Replica, from int, acts ...api.Act) {
	t.Helper()
	raw, err := packet.Bytes(api.Message{Kind: api.Acts, From: from, Epoch: r.Epoch(), Acts: acts})
	ok(t, err)
	ok(t, r.Take(raw))
}

func wantAgree(t testing.TB, a, b *replica.Replica, same, comparable bool) {
	t.Helper()
	for range 2 {
		if gotSame, gotComparable := audit.Agree(a, b); gotSame != same || gotComparable != comparable {
			t.Errorf("Agree is %v and %v, not %v and %v", gotSame, gotComparable, same, comparable)
		}
		a, b = b, a
	}
}

func wantRows[E comparable](t testing.TB, got, want [][]E) {
	t.Helper()
	if !slices.EqualFunc(got, want, slices.Equal) {
		t.Errorf("told is\n%v, want\n%v", got, want)
	}
}

func wantOrdered(t testing.TB, want bool, l ...[]api.Element) {
	t.Helper()
	if got := audit.Ordered(l...); got != want {
		t.Errorf("Ordered of %v is %v", l, got)
	}
}

func wantFirst(t testing.TB, a, b []api.Element, x, y api.ID) {
	t.Helper()
	gotX, gotY, gotOK := audit.First(a, b)
	if gotX != x || gotY != y || gotOK != (x != y) {
		t.Errorf("First of %v and %v is %v, %v, %v, want %v, %v", a, b, gotX, gotY, gotOK, x, y)
	}
}

func wantShared(t testing.TB, a, b []api.Element, want int) {
	t.Helper()
	if got, back := audit.Shared(a, b), audit.Shared(b, a); got != want || back != want {
		t.Errorf("Shared of %v and %v is %d, the other way round %d, want %d", a, b, got, back, want)
	}
}

func wantAuthors(t testing.TB, l []api.Element, want ...int) {
	t.Helper()
	var all [api.MaxReplicas]int
	copy(all[:], want)
	if got := audit.Authors(l); got != all {
		t.Errorf("Authors of %v are %v, not %v", l, got, all)
	}
}

func run(text string, replica int) api.Link { return api.Link{Layer: text, At: replica} }

func wantRuns(t testing.TB, l []api.Element, want ...api.Link) {
	t.Helper()
	if got := audit.Runs(l); !slices.Equal(got, want) {
		t.Errorf("Runs of %v are %v, not %v", l, got, want)
	}
}

func wantCausal(t testing.TB, want bool, l ...api.Act) {
	t.Helper()
	if got := audit.Causal(l); got != want {
		t.Errorf("Causal of %v is %v", l, got)
	}
}

// wantFlaws: of each number there is a refusal, and no other one.
func wantFlaws(t testing.TB, r *replica.Replica, numbers ...int) {
	t.Helper()
	err := audit.Sound(r)
	var each []error
	var many *fault.Many
	if errors.As(err, &many) {
		each = many.Errs
	} else if err != nil {
		each = []error{err}
	}
	if len(each) != len(numbers) || (many != nil) != (len(numbers) > 1) {
		t.Fatalf("Sound is %v, want %v", err, numbers)
	}
	for i, n := range numbers {
		wantRefusal(t, each[i], n, api.ErrForm)
	}
}

func wantRefusal(t testing.TB, err error, at int, why error) {
	t.Helper()
	var refusal *fault.Fault
	if !errors.As(err, &refusal) || *refusal != (fault.Fault{Layer: "audit", Call: "Sound", At: at, Why: why}) {
		t.Errorf("refused is %v, want %v at %d", err, why, at)
	}
}

// P20.1

func TestAgree(t *testing.T) {
	l := sites(t, config(2, 40, 4, 4))
	wantAgree(t, l[0], l[0], true, true)
	wantAgree(t, l[0], l[1], true, true)
	ok(t, l[0].Insert(0, "ab"))
	wantAgree(t, l[0], l[0], true, true)
	wantAgree(t, l[0], l[1], false, false)
	carry(t, l)
	wantAgree(t, l[0], l[1], true, true)
	// one has erased, the other one has inserted
	ok(t, l[0].Erase(0, 1))
	ok(t, l[1].Insert(1, "x"))
	wantAgree(t, l[0], l[1], false, false)
	carry(t, l)
	wantAgree(t, l[0], l[1], true, true)
	if l[0].View() != "xb" {
		t.Errorf("there is %q", l[0].View())
	}
}

func TestAgreeOfNil(t *testing.T) {
	r := sites(t, config(1, 4, 1, 0))[0]
	wantAgree(t, nil, r, false, false)
	wantAgree(t, nil, nil, false, false)
}

func TestAgreeInAllFields(t *testing.T) {
	base := slices.Concat(typed(0, "ab"), typed(2, "c"))
	one := from(t, 3, base)
	wantAgree(t, one, from(t, 3, slices.Clone(base)), true, true)
	for name, spoil := range map[string]func(e *api.Element){
		"epoch":   func(e *api.Element) { e.ID.Epoch = 1 },
		"replica": func(e *api.Element) { e.ID.Replica = 1 },
		"number":  func(e *api.Element) { e.ID.Number = 9 },
		"char":    func(e *api.Element) { e.Char = 'A' },
	} {
		for i := range base {
			other := slices.Clone(base)
			spoil(&other[i])
			t.Run(name, func(t *testing.T) { wantAgree(t, one, from(t, 3, other), false, true) })
		}
	}
	wantAgree(t, one, from(t, 3, base[:2]), false, true)
	wantAgree(t, one, from(t, 3, nil), false, true)
	swapped := slices.Clone(base)
	slices.Reverse(swapped)
	wantAgree(t, one, from(t, 3, swapped), false, true)
	// how often they were erased: two have delivered an act each that is another one
	wantAgree(t, from(t, 3, base, act(api.Erase, 0, 1, 1)), from(t, 3, base, act(api.Erase, 1, 1, 1)), false, true)
	wantAgree(t, from(t, 3, base, act(api.Erase, 2, 1, 1)), from(t, 3, base, act(api.Restore, 2, 1, 1)), false, true)
}

func TestAgreeOfEpochsAndClocks(t *testing.T) {
	base := typed(0, "ab")
	wantAgree(t, from(t, 0, base), from(t, 1, base), false, false)
	wantAgree(t, from(t, 1, base), from(t, 2, base), false, false)
	// elements alike, clocks unlike in any entry
	erased := act(api.Erase, 0, 0, 1)
	back := func(r, n int, clock ...int) api.Act { return act(api.Restore, 0, r, n, clock...) }
	all := []*replica.Replica{
		from(t, 0, base),
		from(t, 0, base, erased, back(0, 2, 1)),
		from(t, 0, base, erased, back(1, 1, 1)),
		from(t, 0, base, erased, back(2, 1, 1)),
	}
	for i, a := range all {
		for j, b := range all {
			wantAgree(t, a, b, i == j, i == j)
			if !slices.Equal(a.Elements(), b.Elements()) {
				t.Fatal("the elements are unlike")
			}
		}
	}
}

// What a replica keeps beside its epoch, its clock and its elements is not
// looked at.
func TestAgreeOfUnlikeSites(t *testing.T) {
	a, err := replica.New(config(3, 90, 4, 4), 2)
	ok(t, err)
	b, err := replica.New(config(2, 7, 1, 0), 0)
	ok(t, err)
	ok(t, b.Sync(1))
	ok(t, b.Propose())
	told(t, a, 1, act(api.Insert, 0, 1, 2, 0, 1))
	if len(a.Held()) != 1 || !b.Frozen() {
		t.Fatal("nothing is held, or b is not frozen")
	}
	wantAgree(t, a, b, true, true)
}

func TestTable(t *testing.T) {
	l := sites(t, config(3, 90, 4, 4))
	ok(t, l[1].Insert(0, "ab"))
	wantRows(t, audit.Table(l), [][]bool{{true, false, true}, {false, true, false}, {true, false, true}})
	// unlike elements of one clock don't agree
	told(t, l[0], 1, act(api.Insert, 0, 1, 1), act(api.Insert, 0, 1, 2, 0, 1))
	wantRows(t, audit.Table(l), [][]bool{{true, false, false}, {false, true, false}, {false, false, true}})
	// a place each, whoever stands there
	places := []*replica.Replica{nil, l[0], l[0], nil, l[1]}
	wantRows(t, audit.Table(places), [][]bool{
		{false, false, false, false, false},
		{false, true, true, false, false},
		{false, true, true, false, false},
		{false, false, false, false, false},
		{false, false, false, false, true},
	})
	wantRows(t, audit.Table(l[:1]), [][]bool{{true}})
	wantRows(t, audit.Table([]*replica.Replica{nil}), [][]bool{{false}})
	wantRows(t, audit.Table(nil), nil)
	wantRows(t, audit.Table([]*replica.Replica{}), nil)
}

// crowd is many places of some replicas that agree, and some that don't.
func crowd(t testing.TB, places int) (l []*replica.Replica) {
	t.Helper()
	some := []*replica.Replica{nil, from(t, 0, nil), from(t, 0, typed(0, "ab")), from(t, 0, typed(0, "ab")), from(t, 1, typed(0, "ab")), from(t, 1, typed(0, "ac"))}
	for i := range places {
		l = append(l, some[i*i%7%len(some)])
	}
	return l
}

// Of any number of places, and each time it is asked, it is what Agree says.
func TestTableOfMany(t *testing.T) {
	for _, places := range []int{2, 3, 4, 5, 7, 8, 9, 33, 100} {
		l := crowd(t, places)
		want := make([][]bool, places)
		for i, a := range l {
			for _, b := range l {
				same, _ := audit.Agree(a, b)
				want[i] = append(want[i], same)
			}
		}
		for range 20 {
			wantRows(t, audit.Table(l), want)
		}
	}
}

// P20.2

func TestOrdered(t *testing.T) {
	a := row("0.1 0.2 1.1")
	wantOrdered(t, true)
	wantOrdered(t, true, nil)
	wantOrdered(t, true, a)
	wantOrdered(t, true, a, a)
	wantOrdered(t, true, a, nil, []api.Element{}, a)
	wantOrdered(t, true, a, row("0.1 2.1 0.2 2.2 1.1"), row("0.1 1.1"), row("3.1"))
	wantOrdered(t, true, row("0.1 5.5 0.2"), row("0.1 6.6 0.2"), row("5.5 6.6"), row("0.2 7.7"))
	wantOrdered(t, false, a, row("0.2 0.1"))
	wantOrdered(t, false, a, row("1.1 0.2"))
	wantOrdered(t, false, row("1.1 0.1"), a)
	wantOrdered(t, false, a, row("0.1 1.1 3.1 0.2"))
}

// Any two of the lists count, not those alone that stand side by side; and no
// more than two.
func TestOrderedOfMany(t *testing.T) {
	wantOrdered(t, false, row("0.1 0.2"), row("0.1"), nil, row("0.2 0.1"))
	wantOrdered(t, false, row("0.3"), row("0.1 0.2"), row("0.2 0.1"))
	wantOrdered(t, false, row("0.1 0.2"), row("0.2 0.1"), row("0.3"))
	// a circle of three lists, of which no two have two elements in common
	wantOrdered(t, true, row("0.1 0.2"), row("0.2 0.3"), row("0.3 0.1"))
}

func TestOrderedOfTwice(t *testing.T) {
	for _, twice := range []string{"0.1 0.1", "0.1 0.2 0.1", "0.2 0.1 0.1", "0.1 0.2 0.3 0.4 0.3"} {
		wantOrdered(t, false, row(twice))
		wantOrdered(t, false, row(twice), row("5.5"))
		wantOrdered(t, false, row("5.5"), row("4.4"), row(twice))
		wantOrdered(t, false, nil, row(twice), nil)
	}
}

// Elements are known by all of their IDs, and by nothing else.
func TestOrderedByIDs(t *testing.T) {
	a := []api.Element{{ID: id(0, 1, 2)}, {ID: id(1, 1, 2)}, {ID: id(0, 2, 2)}, {ID: id(0, 1, 3)}, {ID: id(-1, least, most)}}
	wantOrdered(t, true, a)
	b := hidden(a, 1)
	for i := range b {
		b[i].Char = rune(-i)
	}
	wantOrdered(t, true, a, b)
	wantShared(t, a, b, 5)
	for i := range b {
		for j := range i {
			turned := slices.Clone(b)
			turned[i], turned[j] = b[j], b[i]
			wantOrdered(t, false, a, turned)
			wantOrdered(t, false, []api.Element{a[j], a[i]}, turned)
		}
	}
	wantOrdered(t, false, []api.Element{a[1], b[1]})
}

func TestFirst(t *testing.T) {
	x, y, z := id(0, 0, 1), id(0, 0, 2), id(0, 0, 3)
	abc := row("0.1 0.2 0.3")
	wantFirst(t, abc, row("0.2 0.1 0.3"), x, y)
	wantFirst(t, abc, row("0.3 0.2 0.1"), x, y) // the first y behind x in a
	wantFirst(t, abc, row("0.3 0.1 0.2"), x, z)
	wantFirst(t, abc, row("0.1 0.3 0.2"), y, z)
	wantFirst(t, abc, row("0.2 0.3 0.1"), x, y)
	wantFirst(t, row("0.2 0.3 0.1"), abc, y, x)
	// what stands in one alone is passed over
	wantFirst(t, row("9.9 0.1 8.8 0.2 7.7"), row("6.6 0.2 5.5 0.1"), x, y)
	// far apart
	wantFirst(t, row("1.1 1.2 1.3 1.4 1.5 1.6"), row("1.1 1.6 1.3 1.4 1.5 1.2"), id(0, 1, 2), id(0, 1, 3))
	wantFirst(t, row("1.1 1.2 1.3 1.4 1.5 1.6"), row("1.1 1.6 1.2 1.3 1.4 1.5"), id(0, 1, 2), id(0, 1, 6))
	wantFirst(t, row("1.1 1.2 1.3 1.4"), row("1.1 1.2 1.4 1.3"), id(0, 1, 3), id(0, 1, 4))
}

func TestFirstOfNone(t *testing.T) {
	abc := row("0.1 0.2 0.3")
	for _, other := range []string{"", "0.1", "0.1 0.2 0.3", "0.1 0.3", "5.5", "5.5 0.2 6.6 0.3 7.7"} {
		wantFirst(t, abc, row(other), api.ID{}, api.ID{})
		wantFirst(t, row(other), abc, api.ID{}, api.ID{})
	}
	wantFirst(t, nil, nil, api.ID{}, api.ID{})
}

// Of an ID that stands twice the first place counts.
func TestFirstOfTwice(t *testing.T) {
	x, y := id(0, 0, 1), id(0, 0, 2)
	wantFirst(t, row("0.1 0.1"), row("0.1 0.1"), api.ID{}, api.ID{})
	wantFirst(t, row("0.1 0.2 0.1"), row("0.1 0.2"), api.ID{}, api.ID{})
	wantFirst(t, row("0.1 0.2"), row("0.1 0.2 0.1"), api.ID{}, api.ID{})
	wantFirst(t, row("0.1 0.2 0.1"), row("0.2 0.1 0.2"), x, y)
	wantFirst(t, row("0.1 0.2"), row("0.2 0.2 0.1"), x, y)
	wantFirst(t, row("0.2 0.1 0.2"), row("0.1 0.2 0.1"), y, x)
}

// An ID of noughts alone is one as any other.
func TestFirstOfZeroID(t *testing.T) {
	x, y, ok := audit.First(row("0.0 0.1"), row("0.1 0.0"))
	if x != (api.ID{}) || y != id(0, 0, 1) || !ok {
		t.Errorf("First is %v, %v, %v", x, y, ok)
	}
	wantShared(t, row("0.0"), row("0.0 0.1"), 1)
	wantOrdered(t, false, row("0.0 0.1"), row("0.1 0.0"))
}

func TestShared(t *testing.T) {
	wantShared(t, nil, nil, 0)
	wantShared(t, row("0.1"), nil, 0)
	wantShared(t, row("0.1 0.2"), row("0.3 1.1"), 0)
	wantShared(t, row("0.1 0.2 0.3"), row("0.3 0.1 0.9"), 2)
	wantShared(t, row("0.1 0.1 0.1"), row("0.1"), 1)
	wantShared(t, row("0.1 0.1 0.2"), row("0.1 0.2 0.2 0.1"), 2)
	wantShared(t, typed(3, strings.Repeat("x", 100)), typed(3, strings.Repeat("y", 70)), 70)
}

// P20.3

func TestAuthors(t *testing.T) {
	wantAuthors(t, nil)
	for r := range api.MaxReplicas {
		want := make([]int, api.MaxReplicas)
		want[r] = 3
		wantAuthors(t, typed(r, "abc"), want...)
	}
	for _, r := range []int{-1, 8, 9, most, least} {
		wantAuthors(t, typed(r, "abc"))
	}
	wantAuthors(t, slices.Concat(typed(7, "a"), typed(0, "xyz"), typed(8, "b"), typed(7, "cd")), 3, 0, 0, 0, 0, 0, 0, 3)
	// erased ones count for nobody, those that were restored too often do
	wantAuthors(t, slices.Concat(hidden(typed(1, "ab"), 1), typed(1, "c"), hidden(typed(1, "d"), 2), hidden(typed(2, "ef"), -1), hidden(typed(0, "g"), most)), 0, 1, 2)
}

func TestRuns(t *testing.T) {
	wantRuns(t, nil)
	wantRuns(t, typed(0, "ab"), run("ab", 0))
	wantRuns(t, slices.Concat(typed(0, "ab"), typed(1, "c"), typed(0, "d"), typed(0, "ef")), run("ab", 0), run("c", 1), run("def", 0))
	wantRuns(t, slices.Concat(typed(5, "é世"), typed(6, "\n\U0010FFFF")), run("é世", 5), run("\n\U0010FFFF", 6))
	wantRuns(t, typed(3, "\x00"), run("\x00", 3))
	// any replica is one here
	wantRuns(t, slices.Concat(typed(-1, "a"), typed(8, "b"), typed(most, "c"), typed(least, "d")), run("a", -1), run("b", 8), run("c", most), run("d", least))
}

// Erased ones stand nowhere: they cut nothing.
func TestRunsOfTheLive(t *testing.T) {
	gone := hidden(typed(4, "xyz"), 1)
	wantRuns(t, gone)
	wantRuns(t, slices.Concat(gone, typed(0, "ab"), gone, typed(0, "c"), typed(1, "d"), gone), run("abc", 0), run("d", 1))
	wantRuns(t, slices.Concat(hidden(typed(0, "a"), -2), hidden(typed(0, "b"), 2), typed(0, "c")), run("ac", 0))
	// the epoch and the number of an ID cut nothing, either
	l := typed(2, "abc")
	l[1].ID = id(9, 2, most)
	wantRuns(t, l, run("abc", 2))
}

// Of Chars that are not right nothing is promised but an answer.
func TestRunsOfWrongChars(t *testing.T) {
	for _, char := range []rune{-1, 0xD800, 0xDFFF, 0x110000, math.MaxInt32, math.MinInt32} {
		audit.Runs([]api.Element{{Char: char}, {Char: 'a'}})
	}
}

func TestRunsOfLongTexts(t *testing.T) {
	text := strings.Repeat("barrow 世", api.MaxModel/8)
	wantRuns(t, typed(1, text), run(text, 1))
}

// P20.4

func TestLags(t *testing.T) {
	l := sites(t, config(3, 90, 4, 4))
	wantRows(t, audit.Lags(l), [][]int{{0, 0, 0}, {0, 0, 0}, {0, 0, 0}})
	ok(t, l[0].Insert(0, "abc"))
	ok(t, l[1].Insert(0, "d"))
	ok(t, l[1].Erase(0, 1))
	wantRows(t, audit.Lags(l), [][]int{{0, 2, 0}, {3, 0, 0}, {3, 2, 0}})
	ok(t, l[2].Take(l[0].Out()[1].Bytes))
	wantRows(t, audit.Lags(l), [][]int{{0, 2, 0}, {3, 0, 3}, {0, 2, 0}})
	wantRows(t, audit.Lags(l[1:]), [][]int{{0, 3}, {2, 0}})
	// a place each, whoever stands there
	wantRows(t, audit.Lags([]*replica.Replica{nil, l[1], nil, l[1], l[2]}), [][]int{
		{-1, -1, -1, -1, -1}, {-1, 0, -1, 0, 3}, {-1, -1, -1, -1, -1}, {-1, 0, -1, 0, 3}, {-1, 2, -1, 2, 0},
	})
	wantRows(t, audit.Lags(nil), nil)
	wantRows(t, audit.Lags([]*replica.Replica{nil}), [][]int{{-1}})
}

// What is held is not delivered.
func TestLagsOfHeldActs(t *testing.T) {
	l := sites(t, config(2, 40, 4, 4))
	ok(t, l[0].Insert(0, "ab"))
	told(t, l[1], 0, act(api.Insert, 1, 0, 2, 1))
	wantRows(t, audit.Lags(l), [][]int{{0, 0}, {2, 0}})
}

// Whatever their clocks are, of unlike epochs the lesser one has no count.
func TestLagsOfEpochs(t *testing.T) {
	first, second := act(api.Insert, 0, 1, 1), act(api.Insert, 0, 1, 2, 0, 1)
	l := []*replica.Replica{from(t, 0, nil, first, second), from(t, 1, nil), from(t, 1, nil, first), from(t, 5, nil)}
	wantRows(t, audit.Lags(l), [][]int{{0, -1, -1, -1}, {0, 0, 1, -1}, {0, 0, 0, -1}, {0, 0, 0, 0}})
}

// P20.5

func TestCausal(t *testing.T) {
	ins := func(r, n int, clock ...int) api.Act { return act(api.Insert, 0, r, n, clock...) }
	wantCausal(t, true)
	wantCausal(t, true, ins(0, 1), ins(0, 2, 1), ins(0, 3, 2))
	wantCausal(t, true, ins(7, 1), ins(0, 1))
	wantCausal(t, true, ins(0, 1), ins(1, 1), ins(1, 2, 1, 1), ins(0, 2, 1, 2))
	wantCausal(t, true, ins(0, 1), ins(1, 1), ins(1, 2, 0, 1), ins(0, 2, 1))
	// twice, out of order, with one left out
	wantCausal(t, false, ins(0, 1), ins(0, 1))
	wantCausal(t, false, ins(0, 2, 1), ins(0, 1))
	wantCausal(t, false, ins(0, 1), ins(0, 3, 2))
	wantCausal(t, false, ins(0, 1), ins(0, 2, 1), ins(0, 2, 1))
	// a cause that is not there, or comes later
	wantCausal(t, false, ins(1, 1, 1))
	wantCausal(t, false, ins(1, 1, 1), ins(0, 1))
	wantCausal(t, false, ins(0, 1), ins(1, 1, 2))
	// wrong ones
	wantCausal(t, false, ins(0, 0))
	wantCausal(t, false, ins(0, 1, 1))
	wantCausal(t, false, ins(8, 1))
	wantCausal(t, false, ins(-1, 1))
	wantCausal(t, false, ins(0, -1), ins(0, 1))
	wantCausal(t, false, ins(0, 1, 0, -1), ins(0, 2), ins(0, 1))
	wantCausal(t, false, ins(least, most, least, most))
	// one wrong one anywhere is enough
	wantCausal(t, false, ins(0, 1), ins(1, 1), ins(2, 5), ins(0, 2, 1))
}

// The operations are not looked at; nor is a clock's entry below 0.
func TestCausalOfClocksAlone(t *testing.T) {
	wantCausal(t, true, act(99, -5, 3, 1), act(0, most, 3, 2, 0, 0, 0, 1))
	wantCausal(t, true, act(1, 0, 0, 1, 0, -1))
}

// P20.6

func TestSoundOfNil(t *testing.T) {
	wantRefusal(t, audit.Sound(nil), -1, api.ErrArg)
}

func TestSound(t *testing.T) {
	for replicas := 1; replicas <= api.MaxReplicas; replicas++ {
		for _, model := range []int{0, 1, 7, 8, 90, 1000} {
			l := sites(t, config(replicas, model, 4, 4))
			for _, r := range l {
				wantFlaws(t, r)
				ok(t, r.Insert(0, strings.Repeat("x", r.Credit())))
				ok(t, r.Erase(0, r.Live()/2))
				wantFlaws(t, r)
			}
		}
	}
}

func TestSoundOfABase(t *testing.T) {
	r := from(t, 1, typed(2, "abc"), act(api.Erase, 0, 1, 1), act(api.Restore, 0, 1, 2, 0, 1))
	wantFlaws(t, r)
	ok(t, r.Move(3))
	wantFlaws(t, r)
}

// 1 and 2: what was restored more often than erased is live, and stays away
// from those that have a Hides of 0.
func TestSoundOfHides(t *testing.T) {
	base := typed(2, "abc")
	wantFlaws(t, from(t, 0, base, act(api.Restore, 1, 1, 1)), 1, 2)
	wantFlaws(t, from(t, 0, base, act(api.Restore, 1, 1, 1), act(api.Erase, 1, 1, 2, 0, 1)))
	wantFlaws(t, from(t, 0, base, act(api.Erase, 1, 1, 1), act(api.Erase, 1, 2, 1)))
}

// 4 and 5: others have inserted more than their credit.
func TestSoundOfTheModel(t *testing.T) {
	for inserts, want := range map[int][2][]int{0: {}, 4: {}, 5: {{5}, {4, 5}}, 8: {{5}, {4, 5}}, 9: {{4, 5}, {4, 5}}} {
		r := sites(t, config(2, 8, 4, 4))[0]
		for n := range inserts {
			told(t, r, 1, act(api.Insert, 0, 1, n+1, 0, n))
		}
		if r.Len() != inserts || r.Credit() != 4 {
			t.Fatalf("there are %d elements, the credit is %d", r.Len(), r.Credit())
		}
		wantFlaws(t, r, want[0]...)
		ok(t, r.Insert(0, "abcd"))
		wantFlaws(t, r, want[1]...)
	}
}

// 7: a held act of the replica's own stays where an edit issues that number.
func TestSoundOfHeldActs(t *testing.T) {
	r, err := replica.From(api.Parts{Config: config(2, 40, 4, 4), Held: []api.Act{act(api.Insert, 0, 0, 2, 1)}, Cursor: api.Anchor{Front: true}})
	ok(t, err)
	wantFlaws(t, r)
	ok(t, r.Insert(0, "a"))
	wantFlaws(t, r)
	ok(t, r.Insert(0, "b"))
	wantFlaws(t, r, 7)
	told(t, r, 1) // what comes in sweeps it away
	wantFlaws(t, r)
}

// All that does not hold is told, in order.
func TestSoundOfMany(t *testing.T) {
	l := sites(t, config(2, 2, 4, 4))
	told(t, l[0], 1, act(api.Insert, 0, 1, 1), act(api.Insert, 0, 1, 2, 0, 1), act(api.Insert, 0, 1, 3, 0, 2), act(api.Restore, 1, 1, 4, 0, 3))
	wantFlaws(t, l[0], 1, 2, 4, 5)
	err := audit.Sound(l[0])
	if !errors.Is(err, api.ErrForm) || !slices.Equal(fault.Codes(err), []int{api.CodeForm, api.CodeForm, api.CodeForm, api.CodeForm}) {
		t.Errorf("refused is %v", err)
	}
	if err.Error() != "audit.Sound at 1: bad form; audit.Sound at 2: bad form; audit.Sound at 4: bad form; audit.Sound at 5: bad form" {
		t.Errorf("refused is %v", err)
	}
	wantFlaws(t, l[1])
}
