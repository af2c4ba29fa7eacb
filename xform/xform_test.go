package xform_test

import (
	"iter"
	"math"
	"slices"
	"testing"

	"barrow/api"
	"barrow/fault"
	"barrow/model"
	"barrow/xform"
)

const (
	most  = math.MaxInt
	least = math.MinInt
	brink = 1 << 40 // the greatest Hides
)

func I(p int, c rune, r int) api.Op { return api.Op{Kind: api.Insert, At: p, Char: c, Replica: r} }
func E(p, r int) api.Op             { return api.Op{Kind: api.Erase, At: p, Replica: r} }
func R(p, r int) api.Op             { return api.Op{Kind: api.Restore, At: p, Replica: r} }

func id(number int) api.ID { return api.ID{Number: number} }

func live(text string) []api.Element {
	var l []api.Element
	for _, c := range text {
		l = append(l, api.Element{ID: id(len(l) + 1), Char: c})
	}
	return l
}

func made(t testing.TB, l []api.Element) *model.Model {
	t.Helper()
	m, err := model.Of(l)
	if err != nil {
		t.Fatalf("Of answers %v", err)
	}
	return m
}

func wantDone(t testing.TB, err error) {
	t.Helper()
	if err != nil {
		t.Errorf("refused: %v", err)
	}
}

func wantRefusal(t testing.TB, err error, at int, why error) {
	t.Helper()
	f, ok := err.(*fault.Fault)
	if !ok || *f != (fault.Fault{Layer: "xform", Call: "Apply", At: max(at, -1), Why: why}) {
		t.Errorf("the error is %v, not xform.Apply at %d: %v", err, at, why)
	}
}

// wantWrapped: the model's own refusal, in one of this layer.
func wantWrapped(t testing.TB, err error, call string, at int, why error) {
	t.Helper()
	f, ok := err.(*fault.Fault)
	if !ok || f.Layer != "xform" || f.Call != "Apply" || f.At != at {
		t.Errorf("the error is %v, not of xform.Apply at %d", err, at)
		return
	}
	g, ok := f.Why.(*fault.Fault)
	if !ok || *g != (fault.Fault{Layer: "model", Call: call, At: at, Why: why}) {
		t.Errorf("the error wraps %v, not model.%s at %d: %v", f.Why, call, at, why)
	}
}

func wantElements(t testing.TB, m *model.Model, want []api.Element) {
	t.Helper()
	if got := m.Elements(); !slices.Equal(got, want) {
		t.Errorf("the elements are %v, not %v", got, want)
	}
}

func wantOp(t testing.TB, what string, got, want api.Op) {
	t.Helper()
	if got != want {
		t.Errorf("%s is %v, not %v", what, got, want)
	}
}

func wantOps(t testing.TB, what string, got, want []api.Op) {
	t.Helper()
	if !slices.Equal(got, want) {
		t.Errorf("%s are %v, not %v", what, got, want)
	}
}

// wrongOps are operations that are not right, each for one reason.
func wrongOps(at int) []api.Op {
	return []api.Op{
		{At: at},
		{Kind: -1, At: at},
		{Kind: 4, At: at},
		{Kind: 4, At: at, Char: 'c'},
		{Kind: least, At: at},
		{Kind: most, At: at},
		{Kind: 1 << 32, At: at},
		{Kind: 1<<32 + api.Insert, At: at, Char: 'c'},
		I(at, 'c', 8), I(at, 'c', -1), I(at, 'c', most), I(at, 'c', least), I(at, 'c', 1<<32),
		E(at, 8), E(at, -1), R(at, 8), R(at, -1),
		I(at, -1, 0), I(at, math.MinInt32, 0), I(at, 0xD800, 0), I(at, 0xDBFF, 0), I(at, 0xDC00, 0),
		I(at, 0xDFFF, 0), I(at, api.MaxChar+1, 0), I(at, math.MaxInt32, 0),
		{Kind: api.Erase, At: at, Char: 5},
		{Kind: api.Erase, At: at, Char: -1},
		{Kind: api.Restore, At: at, Char: 'x'},
		{Kind: api.Restore, At: at, Char: api.MaxChar + 1},
	}
}

// rightOps are all kinds, at the edges of what is right.
func rightOps(at int) []api.Op {
	var l []api.Op
	for r := range 8 {
		l = append(l, E(at, r), R(at, r))
		for _, c := range []rune{0, 1, 10, 'c', 128, 0xD7FF, 0xE000, 0xFFFD, 0xFFFF, 0x10000, api.MaxChar} {
			l = append(l, I(at, c, r))
		}
	}
	return l
}

func anyPlaces() []int { return []int{least, -1, 0, 1, 2, 3, 1 << 32, most - 1, most} }

// P7.1: the place does not count.
func TestRight(t *testing.T) {
	for _, at := range anyPlaces() {
		for _, op := range rightOps(at) {
			if !xform.Right(op) {
				t.Errorf("%v is right", op)
			}
		}
		for _, op := range wrongOps(at) {
			if xform.Right(op) {
				t.Errorf("%v is not right", op)
			}
		}
	}
}

// P7.1
func TestValid(t *testing.T) {
	for _, n := range []int{0, 1, 2, 9, api.MaxModel, 1 << 32, most - 1, most} {
		for _, op := range rightOps(0) {
			for _, at := range []int{least, -1, 0, 1, n / 2, n - 1, n, n + 1, most} {
				op.At = at
				want := at >= 0 && at <= n
				if op.Kind != api.Insert {
					want = want && at != n
				}
				if xform.Valid(op, n) != want {
					t.Errorf("Valid(%v, %d) is not %v", op, n, want)
				}
			}
		}
		for _, at := range []int{0, n / 2} {
			for _, op := range wrongOps(at) {
				if xform.Valid(op, n) {
					t.Errorf("%v is not valid on %d", op, n)
				}
			}
		}
	}
}

// No row has fewer elements than none.
func TestValidOnNoRow(t *testing.T) {
	for _, n := range []int{least, least + 1, -2, -1} {
		for _, at := range []int{least, n - 1, n, n + 1, -1, 0, 1, most} {
			for _, op := range []api.Op{I(at, 'c', 0), E(at, 0), R(at, 0)} {
				if xform.Valid(op, n) {
					t.Errorf("Valid(%v, %d) is true", op, n)
				}
			}
		}
	}
}

// P7.1: an Insert lays {id, Char, 0} in, whatever the ID is.
func TestApplyInsert(t *testing.T) {
	for at := range 4 {
		for _, x := range []api.ID{{}, id(9), {Epoch: -1, Replica: 99, Number: least}} {
			for _, c := range []rune{'c', 0, 10, api.MaxChar} {
				l := live("abb")
				l[1].Hides = 2
				m := made(t, l)
				wantDone(t, xform.Apply(m, I(at, c, 7), x))
				wantElements(t, m, slices.Insert(l, at, api.Element{ID: x, Char: c}))
			}
		}
	}
	m := model.New()
	wantDone(t, xform.Apply(m, I(0, 'a', 0), id(1)))
	wantElements(t, m, live("a"))
}

// P7.1: an Erase makes the Hides greater, a Restore less; no ID counts.
func TestApplyErase(t *testing.T) {
	for at := range 3 {
		for _, hides := range []int{0, 1, -1, 2, -2, brink - 1, -brink + 1} {
			for _, x := range []api.ID{{}, id(1), id(2), id(9)} {
				l := live("abc")
				l[at].Hides = hides
				m := made(t, l)
				wantDone(t, xform.Apply(m, E(at, 3), x))
				l[at].Hides = hides + 1
				wantElements(t, m, l)
				wantDone(t, xform.Apply(m, R(at, 4), x))
				wantDone(t, xform.Apply(m, R(at, 0), x))
				l[at].Hides = hides - 1
				wantElements(t, m, l)
			}
		}
	}
}

// P7.1: what is not right, ahead of what is out of range or there already.
func TestApplyRefusesWrong(t *testing.T) {
	for _, at := range []int{least, -2, -1, 0, 1, 2, 3, most} {
		for _, op := range wrongOps(at) {
			m := made(t, live("ab"))
			wantRefusal(t, xform.Apply(m, op, id(1)), at, api.ErrArg)
			wantRefusal(t, xform.Apply(m, op, id(9)), at, api.ErrArg)
			wantElements(t, m, live("ab"))
			wantRefusal(t, xform.Apply(nil, op, id(9)), at, api.ErrArg)
		}
		for _, op := range rightOps(at) {
			wantRefusal(t, xform.Apply(nil, op, id(9)), at, api.ErrArg)
		}
	}
}

// P7.1: what is out of range, ahead of what is there already.
func TestApplyRefusesPlaces(t *testing.T) {
	for _, text := range []string{"", "a", "ab"} {
		n := len(text)
		var ops []api.Op
		for _, at := range []int{least, -2, -1, n + 1, n + 2, most} {
			ops = append(ops, rightOps(at)...)
		}
		ops = append(ops, E(n, 0), R(n, 0), E(n, 7), R(n, 7))
		for _, op := range ops {
			m := made(t, live(text))
			wantRefusal(t, xform.Apply(m, op, id(1)), op.At, api.ErrRange)
			wantRefusal(t, xform.Apply(m, op, id(9)), op.At, api.ErrRange)
			wantElements(t, m, live(text))
		}
	}
}

// P7.1: what the model refuses comes wrapped, and nothing has changed.
func TestApplyWraps(t *testing.T) {
	for at := range 3 {
		m := made(t, live("ab"))
		wantWrapped(t, xform.Apply(m, I(at, 'c', 0), id(2)), "Insert", at, api.ErrTwice)
		wantElements(t, m, live("ab"))
		wantDone(t, xform.Apply(m, I(at, 'c', 0), id(3)))
	}
}

// A Hides that can't be greater or less: the model refuses that too.
func TestApplyAtTheBrink(t *testing.T) {
	l := live("ab")
	l[0].Hides, l[1].Hides = brink, -brink
	m := made(t, l)
	wantWrapped(t, xform.Apply(m, E(0, 0), id(3)), "Add", 0, api.ErrArg)
	wantWrapped(t, xform.Apply(m, R(1, 0), id(3)), "Add", 1, api.ErrArg)
	wantElements(t, m, l)
	wantDone(t, xform.Apply(m, R(0, 0), id(3)))
	wantDone(t, xform.Apply(m, E(1, 0), id(3)))
	l[0].Hides, l[1].Hides = brink-1, -brink+1
	wantElements(t, m, l)
}

// wantT is P7.2, by its words.
func wantT(a, b api.Op) api.Op {
	if b.Kind != 1 || a.At == most {
		return a
	}
	if a.Kind == 1 && b.At < a.At {
		a.At++
	} else if a.Kind == 1 && b.At == a.At && !(a.Replica < b.Replica) {
		a.At++
	} else if (a.Kind == 2 || a.Kind == 3) && (b.At == a.At || b.At < a.At) {
		a.At++
	}
	return a
}

// anyOps are operations, right and wrong ones.
func anyOps() []api.Op {
	var l []api.Op
	for kind := -1; kind <= 4; kind++ {
		for _, at := range anyPlaces() {
			for _, r := range []int{least, -1, 0, 1, 6, 7, 8, most} {
				l = append(l, api.Op{Kind: kind, At: at, Char: rune(r), Replica: r})
			}
		}
	}
	return l
}

// P7.2, whatever the two are.
func TestT(t *testing.T) {
	for _, a := range anyOps() {
		for _, b := range anyOps() {
			if got, want := xform.T(a, b), wantT(a, b); got != want {
				t.Fatalf("T(%v, %v) is %v, not %v", a, b, got, want)
			}
		}
	}
}

// P7.2: the last place stays, the one ahead of it does not.
func TestTAtTheLastPlace(t *testing.T) {
	for _, a := range []api.Op{I(most, 'x', 1), E(most, 1), R(most, 1)} {
		for _, b := range []api.Op{I(0, 'y', 0), I(most, 'y', 0), I(most, 'y', 1), I(least, 'y', 2)} {
			wantOp(t, "T", xform.T(a, b), a)
			near := a
			near.At--
			want := near
			if b.At < most {
				want = a
			}
			wantOp(t, "T", xform.T(near, b), want)
		}
	}
}

// around are the forms of an operation at places near its own.
func around(a api.Op) iter.Seq[api.Op] {
	return func(yield func(api.Op) bool) {
		for by := -5; by <= 5; by++ {
			x := a
			x.At += by
			if !yield(x) {
				return
			}
		}
	}
}

// P7.3, by its words: every operation that could be the one is tried.
func TestBack(t *testing.T) {
	places := []int{0, 1, 2, 3, 4, 1<<62 - 3, 1<<62 - 2, 1<<62 - 1}
	var ops []api.Op
	for _, at := range places {
		for _, r := range []int{0, 1, 3, 7} {
			ops = append(ops, I(at, 'x', r), I(at, 0, r), E(at, r), R(at, r))
		}
	}
	for _, a := range ops {
		for _, b := range ops {
			var found []api.Op
			for x := range around(a) {
				if wantT(x, b) == a {
					found = append(found, x)
				}
			}
			want := a
			if len(found) > 0 {
				want = found[0]
			}
			got, ok := xform.Back(a, b)
			if len(found) > 1 || got != want || ok != (len(found) == 1) {
				t.Fatalf("Back(%v, %v) is %v, %v, and there are %v", a, b, got, ok, found)
			}
		}
	}
}

// P7.3: when there is none, it is for just the reasons that it names.
func TestBackOfNone(t *testing.T) {
	for at := range 4 {
		for from := range 4 {
			for r := range 8 {
				for s := range 8 {
					b := I(from, 'y', s)
					for _, a := range []api.Op{E(at, r), R(at, r)} {
						if _, ok := xform.Back(a, b); ok == (at == from) {
							t.Errorf("Back(%v, %v) says %v", a, b, ok)
						}
					}
					a := I(at, 'x', r)
					other := at == from && r >= s || at == from+1 && r < s
					if _, ok := xform.Back(a, b); ok == other {
						t.Errorf("Back(%v, %v) says %v", a, b, ok)
					}
				}
			}
		}
	}
}

// What is not an Insert is in nobody's way.
func TestBackOfErase(t *testing.T) {
	for _, a := range []api.Op{I(0, 'x', 1), I(1, 'x', 1), E(0, 1), E(1, 2), R(1, 1), R(2, 0)} {
		for _, b := range []api.Op{E(0, 0), E(1, 1), E(2, 2), R(0, 2), R(1, 0), R(1, 1)} {
			got, ok := xform.Back(a, b)
			wantOp(t, "Back", got, a)
			if !ok {
				t.Errorf("Back(%v, %v) says false", a, b)
			}
		}
	}
}

// R1: these end, whatever they are given.
func TestAnyOperations(t *testing.T) {
	for _, a := range anyOps() {
		for _, b := range anyOps() {
			if got, ok := xform.Back(a, b); !ok && got != a {
				t.Fatalf("Back(%v, %v) is %v, false", a, b, got)
			}
			if x, y, ok := xform.Swap(a, b); !ok && (x != a || y != b) {
				t.Fatalf("Swap(%v, %v) is %v, %v, false", a, b, x, y)
			}
		}
	}
}

// P7.4, by its words.
func TestSwap(t *testing.T) {
	swapped := 0
	for _, a := range shortOps(3, 0, 1, 7) {
		for _, b := range shortOps(4, 0, 1, 7) {
			x, y, ok := xform.Swap(a, b)
			back, can := xform.Back(b, a)
			if ok != can {
				t.Errorf("Swap(%v, %v) says %v", a, b, ok)
			}
			if !can {
				wantOp(t, "the first one", x, a)
				wantOp(t, "the second one", y, b)
				continue
			}
			swapped++
			wantOp(t, "the first one", x, back)
			wantOp(t, "the second one", y, wantT(a, back))
		}
	}
	if swapped == 0 {
		t.Error("none was swapped")
	}
}

// P7.5
func TestAlong(t *testing.T) {
	a := I(2, 'x', 3)
	wantOp(t, "Along nil", xform.Along(a, nil), a)
	wantOp(t, "Along none", xform.Along(a, []api.Op{}), a)
	for _, x := range []struct {
		l    []api.Op
		want int
	}{
		{[]api.Op{I(2, 'y', 5)}, 2},
		{[]api.Op{I(1, 'y', 5)}, 3},
		{[]api.Op{I(1, 'y', 5), I(3, 'y', 2)}, 4},
		{[]api.Op{I(1, 'y', 5), I(3, 'y', 5)}, 3},
		{[]api.Op{I(3, 'y', 2), I(1, 'y', 5)}, 3}, // the order counts
		{[]api.Op{E(0, 0), I(0, 'y', 7), R(1, 5), I(3, 'z', 3), I(5, 'z', 0)}, 4},
		{[]api.Op{{Kind: 9}, {}, I(-3, 'y', 99)}, 3},
	} {
		kept := slices.Clone(x.l)
		wantOp(t, "Along", xform.Along(a, x.l), I(x.want, 'x', 3))
		wantOps(t, "what was handed in", x.l, kept)
	}
	wantOp(t, "Along", xform.Along(E(0, 0), []api.Op{I(0, 'a', 1), I(0, 'b', 1), I(2, 'c', 1)}), E(3, 0))
}

// P7.5: the order in which they go through each other counts.
func TestCross(t *testing.T) {
	for name, x := range map[string]struct{ as, bs, wantAs, wantBs []api.Op }{
		"none":        {},
		"no bs":       {as: []api.Op{I(0, 'a', 1), E(0, 1)}, wantAs: []api.Op{I(0, 'a', 1), E(0, 1)}},
		"no as":       {bs: []api.Op{I(0, 'a', 1), E(0, 1)}, wantBs: []api.Op{I(0, 'a', 1), E(0, 1)}},
		"one each":    {[]api.Op{I(1, 'a', 2)}, []api.Op{I(1, 'b', 1)}, []api.Op{I(2, 'a', 2)}, []api.Op{I(1, 'b', 1)}},
		"bs in a row": {[]api.Op{I(0, 'a', 1)}, []api.Op{I(0, 'x', 2), I(1, 'y', 2)}, []api.Op{I(0, 'a', 1)}, []api.Op{I(1, 'x', 2), I(2, 'y', 2)}},
		"as moved on the way": {
			[]api.Op{I(0, 'a', 2), E(1, 2), I(2, 'b', 2)},
			[]api.Op{I(0, 'x', 1), E(1, 1), I(2, 'y', 1)},
			[]api.Op{I(1, 'a', 2), E(2, 2), I(4, 'b', 2)},
			[]api.Op{I(0, 'x', 1), E(2, 1), I(3, 'y', 1)},
		},
	} {
		t.Run(name, func(t *testing.T) {
			as, bs := xform.Cross(x.as, x.bs)
			wantOps(t, "of as", as, x.wantAs)
			wantOps(t, "of bs", bs, x.wantBs)
		})
	}
}

// roomy is a list with spare room, which is filled too.
func roomy(l []api.Op) []api.Op {
	return append(slices.Clone(l), I(77, 'q', 7), I(78, 'q', 7), I(79, 'q', 7))[:len(l)]
}

// R2: what is handed in stays, and shares nothing with what is answered.
func TestCrossMemory(t *testing.T) {
	for _, x := range [][2][]api.Op{
		{{I(0, 'a', 2), E(0, 2)}, {I(0, 'x', 1), I(0, 'y', 1)}},
		{{I(0, 'a', 2)}, {}},
		{{}, {I(0, 'a', 2)}},
		{{}, {}},
	} {
		as, bs := roomy(x[0]), roomy(x[1])
		gotAs, gotBs := xform.Cross(as, bs)
		wantAs, wantBs := slices.Clone(gotAs), slices.Clone(gotBs)
		againAs, againBs := xform.Cross(as, bs)
		for _, l := range [][]api.Op{as, bs} {
			l = l[:len(l)+3]
			wantOps(t, "the spare room", l[len(l)-3:], []api.Op{I(77, 'q', 7), I(78, 'q', 7), I(79, 'q', 7)})
		}
		wantOps(t, "as", as, x[0])
		wantOps(t, "bs", bs, x[1])
		for i, l := range [][]api.Op{as, bs, againAs, againBs} {
			clear(l[:cap(l)])
			wantOps(t, "of as", gotAs, wantAs)
			wantOps(t, "of bs", gotBs, wantBs)
			for j := range l[:cap(l)] {
				l[:cap(l)][j] = I(100+i, 'q', 0)
			}
		}
		clear(gotAs[:cap(gotAs)])
		wantOps(t, "of bs", gotBs, wantBs)
	}
}

// One list for both.
func TestCrossOfItself(t *testing.T) {
	l := []api.Op{I(0, 'a', 2), I(1, 'b', 2), E(0, 2)}
	kept := slices.Clone(l)
	as, bs := xform.Cross(l, l)
	wantAs, wantBs := crossed(kept, kept)
	wantOps(t, "of as", as, wantAs)
	wantOps(t, "of bs", bs, wantBs)
	wantOps(t, "what was handed in", l, kept)
}

// P7.6: only the Kind counts.
func TestInverse(t *testing.T) {
	for _, at := range anyPlaces() {
		for _, r := range []int{least, -1, 0, 3, 7, 8, most} {
			for _, c := range []rune{0, 'c', -1, api.MaxChar + 1} {
				for kind, want := range map[int]int{api.Insert: api.Erase, api.Erase: api.Restore, api.Restore: api.Erase} {
					got, ok := xform.Inverse(api.Op{Kind: kind, At: at, Char: c, Replica: r})
					wantOp(t, "Inverse", got, api.Op{Kind: want, At: at, Replica: r})
					if !ok {
						t.Errorf("Inverse of kind %d says false", kind)
					}
				}
				for _, kind := range []int{least, -1, 0, 4, 1 << 32, 1<<32 + 1, most} {
					got, ok := xform.Inverse(api.Op{Kind: kind, At: at, Char: c, Replica: r})
					wantOp(t, "Inverse", got, api.Op{})
					if ok {
						t.Errorf("Inverse of kind %d says true", kind)
					}
				}
			}
		}
	}
}

// P7.6: done at once, it undoes: the view is what it was, and so is the Hides
// of what was there.
func TestInverseUndoes(t *testing.T) {
	for _, op := range shortOps(3, 0, 5) {
		for _, hides := range []int{-1, 0, 1, 2} {
			l := live("abc")
			l[1].Hides = hides
			m := made(t, l)
			view := m.View()
			wantDone(t, xform.Apply(m, op, id(9)))
			back, _ := xform.Inverse(op)
			wantDone(t, xform.Apply(m, back, id(10)))
			if m.View() != view {
				t.Errorf("%v undone: the view is %q, was %q", op, m.View(), view)
			}
			if op.Kind == api.Insert {
				l = slices.Insert(l, op.At, api.Element{ID: id(9), Char: op.Char, Hides: 1})
			}
			wantElements(t, m, l)
		}
	}
}
