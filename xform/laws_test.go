package xform_test

import (
	"math/rand"
	"slices"
	"testing"

	"barrow/api"
	"barrow/xform"
)

// shortOps are all operations that are valid on a row of n elements, of some
// replicas.
func shortOps(n int, replicas ...int) []api.Op {
	var l []api.Op
	for _, r := range replicas {
		for at := range n {
			l = append(l, E(at, r), R(at, r))
		}
		for at := range n + 1 {
			l = append(l, I(at, rune('0'+r), r))
		}
	}
	return l
}

// rowOf is a row of n elements, erased and live ones, in one of 4^n ways.
func rowOf(n, way int) []api.Element {
	l := make([]api.Element, n)
	for i := range l {
		l[i] = api.Element{ID: id(i + 1), Char: rune('a' + i), Hides: way%4 - 1}
		way /= 4
	}
	return l
}

// A deed is an operation, and the ID of what it lays in, if it does.
type deed struct {
	op api.Op
	id api.ID
}

// plain does a deed to a plain list, as the chapter's words say.
func plain(l []api.Element, d deed) []api.Element {
	l = slices.Clone(l)
	switch d.op.Kind {
	case 1:
		l = slices.Insert(l, d.op.At, api.Element{ID: d.id, Char: d.op.Char})
	case 2:
		l[d.op.At].Hides++
	case 3:
		l[d.op.At].Hides--
	}
	return l
}

// row is what deeds make of a row, one behind the other: each must be valid
// then (P7.9), and the model must become what the words say (P7.1).
func row(t testing.TB, base []api.Element, deeds ...deed) []api.Element {
	t.Helper()
	m := made(t, base)
	l := base
	for _, d := range deeds {
		if !xform.Valid(d.op, len(l)) {
			t.Fatalf("%v is not valid on %v", d.op, l)
		}
		l = plain(l, d)
		wantDone(t, xform.Apply(m, d.op, d.id))
		if got := m.Elements(); !slices.Equal(got, l) {
			t.Fatalf("%v has made %v, not %v", d.op, got, l)
		}
	}
	return l
}

// wantForm is P7.9 of one form.
func wantForm(t testing.TB, form, op api.Op) {
	t.Helper()
	if form.Kind != op.Kind || form.Char != op.Char || form.Replica != op.Replica {
		t.Errorf("%v is no form of %v", form, op)
	}
}

// P7.7, P7.9, W1: every two on every short row.
func TestTwoWays(t *testing.T) {
	for n := range 4 {
		for way := range 1 << (2 * n) {
			base := rowOf(n, way)
			for _, a := range shortOps(n, 0, 3, 7) {
				for _, b := range shortOps(n, 0, 3, 7) {
					wantForm(t, xform.T(a, b), a)
					if a.Replica != b.Replica {
						wantTwoWays(t, base, a, b)
					}
				}
			}
		}
	}
}

func wantTwoWays(t testing.TB, base []api.Element, a, b api.Op) {
	t.Helper()
	x, y := id(len(base)+1), id(len(base)+2)
	one := row(t, base, deed{a, x}, deed{xform.T(b, a), y})
	other := row(t, base, deed{b, y}, deed{xform.T(a, b), x})
	if !slices.Equal(one, other) {
		t.Fatalf("%v and %v make of %v: %v, and %v", a, b, base, one, other)
	}
}

// P7.7: every two replicas that are unlike.
func TestTwoWaysOfAllReplicas(t *testing.T) {
	base := rowOf(2, 6)
	for r := range 8 {
		for s := range 8 {
			if r == s {
				continue
			}
			for _, a := range shortOps(2, r) {
				for _, b := range shortOps(2, s) {
					wantTwoWays(t, base, a, b)
				}
			}
		}
	}
}

// P7.8, W1: every three on every short row, and all six ways to one row.
func TestThreeWays(t *testing.T) {
	for n := range 5 {
		base := rowOf(n, 0b0001111001)
		for _, r := range [][3]int{{0, 1, 2}, {0, 2, 1}, {1, 0, 2}, {1, 2, 0}, {2, 0, 1}, {2, 1, 0}, {7, 0, 3}} {
			for _, a := range shortOps(n, r[0]) {
				for _, b := range shortOps(n, r[1]) {
					for _, c := range shortOps(n, r[2]) {
						wantThreeWays(t, base, a, b, c)
					}
				}
			}
		}
	}
}

func wantThreeWays(t testing.TB, base []api.Element, a, b, c api.Op) {
	t.Helper()
	one := xform.T(xform.T(c, a), xform.T(b, a))
	other := xform.T(xform.T(c, b), xform.T(a, b))
	if one != other {
		t.Fatalf("%v behind %v and %v is %v, and %v", c, a, b, one, other)
	}
	n := len(base)
	x, y, z := id(n+1), id(n+2), id(n+3)
	left := row(t, base, deed{a, x}, deed{xform.T(b, a), y}, deed{one, z})
	right := row(t, base, deed{c, z}, deed{xform.T(a, c), x}, deed{xform.Along(b, []api.Op{c, xform.T(a, c)}), y})
	if !slices.Equal(left, right) {
		t.Fatalf("%v, %v and %v make of %v: %v, and %v", a, b, c, base, left, right)
	}
}

// W1: what is not valid is refused, and changes nothing.
func TestWhatIsNotValidIsRefused(t *testing.T) {
	for n := range 4 {
		for _, a := range shortOps(n+2, 0, 7) {
			for _, by := range []int{0, -n - 2} {
				a.At += by
				if xform.Valid(a, n) {
					continue
				}
				base := rowOf(n, 0b0001111001)
				m := made(t, base)
				wantRefusal(t, xform.Apply(m, a, id(n+1)), a.At, api.ErrRange)
				wantElements(t, m, base)
			}
		}
	}
}

// P7.9: Swap there and back is where it began, and, of unlike replicas, both
// orders make one row.
func TestSwapThereAndBack(t *testing.T) {
	for n := range 5 {
		base := rowOf(n, 0b0001111001)
		for _, a := range shortOps(n, 0, 3, 7) {
			more := 0
			if a.Kind == api.Insert {
				more = 1
			}
			for _, b := range shortOps(n+more, 0, 3, 7) {
				wantSwapped(t, base, a, b)
			}
		}
	}
}

func wantSwapped(t testing.TB, base []api.Element, a, b api.Op) {
	t.Helper()
	x, y, ok := xform.Swap(a, b)
	if !ok {
		return
	}
	wantForm(t, x, b)
	wantForm(t, y, a)
	if p, q, ok := xform.Swap(x, y); p != a || q != b || !ok {
		t.Fatalf("Swap of %v and %v there and back is %v, %v, %v", a, b, p, q, ok)
	}
	if a.Replica == b.Replica {
		return
	}
	k := len(base)
	one := row(t, base, deed{a, id(k + 1)}, deed{b, id(k + 2)})
	other := row(t, base, deed{x, id(k + 2)}, deed{y, id(k + 1)})
	if !slices.Equal(one, other) {
		t.Fatalf("%v and %v make of %v: %v, swapped %v", a, b, base, one, other)
	}
}

// crossed is P7.5, by a square of forms: in it, going down is going past
// elements of bs, going right past those of as.
func crossed(as, bs []api.Op) ([]api.Op, []api.Op) {
	down := make([][]api.Op, len(as)) // down[i][j]: as[i] behind the first j of bs
	for i, a := range as {
		down[i] = []api.Op{a}
	}
	var right []api.Op
	for j, b := range bs {
		for i := range as {
			a := down[i][j]
			down[i] = append(down[i], wantT(a, b))
			b = wantT(b, a)
		}
		right = append(right, b)
	}
	var left []api.Op
	for i := range as {
		left = append(left, down[i][len(bs)])
	}
	return left, right
}

// opsOf reads off from bytes operations that are done one behind the other on
// a row of n elements, of the replicas that are even, or odd.
func opsOf(raw []byte, n, odd int) []api.Op {
	var l []api.Op
	for len(raw) >= 2 {
		r := int(raw[0]>>4)%4*2 + odd
		kind, at := int(raw[0])%4, int(raw[1])
		switch {
		case kind == api.Erase && n > 0:
			l = append(l, E(at%n, r))
		case kind == api.Restore && n > 0:
			l = append(l, R(at%n, r))
		default:
			l = append(l, I(at%(n+1), rune('A'+len(l)%26), r))
			n++
		}
		raw = raw[2:]
	}
	return l
}

func deeds(l []api.Op, epoch int) []deed {
	var ds []deed
	for i, op := range l {
		ds = append(ds, deed{op, api.ID{Epoch: epoch, Number: i}})
	}
	return ds
}

// wantCrossed: Cross is what its words say, its forms are valid, and both ways
// make one row (P7.5, P7.9).
func wantCrossed(t testing.TB, base []api.Element, as, bs []api.Op) {
	t.Helper()
	gotAs, gotBs := xform.Cross(as, bs)
	wantAs, wantBs := crossed(as, bs)
	wantOps(t, "of as", gotAs, wantAs)
	wantOps(t, "of bs", gotBs, wantBs)
	for i, op := range gotAs {
		wantForm(t, op, as[i])
	}
	for j, op := range gotBs {
		wantForm(t, op, bs[j])
	}
	one := row(t, base, slices.Concat(deeds(as, 1), deeds(gotBs, 2))...)
	other := row(t, base, slices.Concat(deeds(bs, 2), deeds(gotAs, 1))...)
	if !slices.Equal(one, other) {
		t.Fatalf("%v and %v make of %v: %v, and %v", as, bs, base, one, other)
	}
	if len(as) > 0 {
		wantOp(t, "Along", xform.Along(as[0], bs), gotAs[0])
	}
	if len(bs) > 0 {
		wantOp(t, "Along", xform.Along(bs[0], as), gotBs[0])
	}
}

// Every two of one side against one of the other one.
func TestCrossOfShortRows(t *testing.T) {
	for n := range 3 {
		base := rowOf(n, 0b011001)
		for _, a := range shortOps(n, 0, 3, 7) {
			more := len(plain(base, deed{op: a})) - n
			for _, next := range shortOps(n+more, 0, 3, 7) {
				for _, b := range shortOps(n, 1, 6) {
					wantCrossed(t, base, []api.Op{a, next}, []api.Op{b})
					wantCrossed(t, base, []api.Op{b}, []api.Op{a, next})
				}
			}
		}
	}
}

func TestCrossOfLongRows(t *testing.T) {
	for seed := range 200 {
		rnd := rand.New(rand.NewSource(int64(seed)))
		n := rnd.Intn(6)
		left, right := make([]byte, rnd.Intn(60)), make([]byte, rnd.Intn(60))
		rnd.Read(left)
		rnd.Read(right)
		wantCrossed(t, rowOf(n, rnd.Intn(1<<12)), opsOf(left, n, 0), opsOf(right, n, 1))
	}
}

func FuzzCross(f *testing.F) {
	f.Add([]byte{1, 0, 1, 1, 18, 0}, []byte{33, 0, 3, 1}, 2)
	f.Add([]byte{}, []byte{1, 2, 3, 4}, 0)
	f.Fuzz(func(t *testing.T, left, right []byte, n int) {
		n = max(n, 0) % 8
		as, bs := opsOf(left[:min(len(left), 60)], n, 0), opsOf(right[:min(len(right), 60)], n, 1)
		wantCrossed(t, rowOf(n, len(left)*77), as, bs)
	})
}
