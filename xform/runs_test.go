package xform_test

import (
	"errors"
	"slices"
	"testing"

	"barrow/api"
	"barrow/fault"
	"barrow/xform"
)

// Each row of the chapter's table.
func TestRuns(t *testing.T) {
	t.Run("T", func(t *testing.T) {
		for _, x := range [][3]api.Op{
			{I(2, 'x', 1), I(1, 'y', 2), I(3, 'x', 1)},
			{I(2, 'x', 1), I(2, 'y', 2), I(2, 'x', 1)},
			{I(2, 'x', 1), I(2, 'y', 0), I(3, 'x', 1)},
			{I(2, 'x', 1), I(3, 'y', 0), I(2, 'x', 1)},
			{I(2, 'x', 1), I(2, 'y', 1), I(3, 'x', 1)},
			{I(2, 'x', 1), E(0, 2), I(2, 'x', 1)},
			{E(2, 1), E(2, 2), E(2, 1)},
			{E(2, 1), R(1, 2), E(2, 1)},
			{E(2, 1), I(2, 'y', 2), E(3, 1)},
			{E(2, 1), I(3, 'y', 2), E(2, 1)},
			{R(0, 1), I(0, 'y', 2), R(1, 1)},
		} {
			wantOp(t, "T", xform.T(x[0], x[1]), x[2])
		}
	})
	t.Run("Back", func(t *testing.T) {
		for _, x := range []struct {
			a, b, want api.Op
			ok         bool
		}{
			{I(3, 'x', 1), I(2, 'y', 0), I(2, 'x', 1), true},
			{I(2, 'x', 1), I(2, 'y', 0), I(2, 'x', 1), false},
			{I(2, 'x', 1), I(2, 'y', 3), I(2, 'x', 1), true},
			{I(3, 'x', 1), I(2, 'y', 3), I(3, 'x', 1), false},
			{E(2, 1), I(2, 'y', 0), E(2, 1), false},
			{E(3, 1), I(2, 'y', 0), E(2, 1), true},
			{E(1, 1), I(2, 'y', 0), E(1, 1), true},
		} {
			got, ok := xform.Back(x.a, x.b)
			wantOp(t, "Back", got, x.want)
			if ok != x.ok {
				t.Errorf("Back(%v, %v) says %v", x.a, x.b, ok)
			}
		}
	})
	t.Run("Swap", func(t *testing.T) {
		x, y, ok := xform.Swap(I(0, 'a', 1), I(1, 'b', 2))
		wantOp(t, "the first one", x, I(0, 'b', 2))
		wantOp(t, "the second one", y, I(0, 'a', 1))
		if !ok {
			t.Error("Swap says false")
		}
	})
	t.Run("Cross", func(t *testing.T) {
		as, bs := xform.Cross([]api.Op{I(0, 'a', 1), I(1, 'b', 1)}, []api.Op{I(0, 'x', 2)})
		wantOps(t, "of as", as, []api.Op{I(0, 'a', 1), I(1, 'b', 1)})
		wantOps(t, "of bs", bs, []api.Op{I(2, 'x', 2)})
	})
	t.Run("Apply", func(t *testing.T) {
		m := made(t, live("ab"))
		for _, x := range []struct {
			op  api.Op
			why error
		}{
			{E(2, 0), api.ErrRange},
			{I(3, 'c', 0), api.ErrRange},
			{I(-1, 'c', 0), api.ErrRange},
			{api.Op{Kind: 4}, api.ErrArg},
			{I(0, 'c', 8), api.ErrArg},
			{api.Op{Kind: api.Erase, Char: 5}, api.ErrArg},
		} {
			wantRefusal(t, xform.Apply(m, x.op, id(3)), x.op.At, x.why)
		}
		wantElements(t, m, live("ab"))
	})
	t.Run("Apply twice", func(t *testing.T) {
		m := made(t, live("ab"))
		err := xform.Apply(m, I(1, 'c', 0), id(2))
		if !errors.Is(err, api.ErrTwice) {
			t.Errorf("the error is %v", err)
		}
		want := []api.Link{{Layer: "xform", Call: "Apply", At: 1}, {Layer: "model", Call: "Insert", At: 1}}
		if got := fault.Chain(err); !slices.Equal(got, want) {
			t.Errorf("the chain is %v, not %v", got, want)
		}
		wantElements(t, m, live("ab"))
	})
	t.Run("Inverse", func(t *testing.T) {
		for _, x := range []struct {
			op, want api.Op
			ok       bool
		}{
			{I(3, 'c', 1), E(3, 1), true},
			{E(3, 1), R(3, 1), true},
			{R(3, 1), E(3, 1), true},
			{api.Op{At: 3, Char: 'c', Replica: 1}, api.Op{}, false},
		} {
			got, ok := xform.Inverse(x.op)
			wantOp(t, "Inverse", got, x.want)
			if ok != x.ok {
				t.Errorf("Inverse(%v) says %v", x.op, ok)
			}
		}
	})
}

func TestExampleOneOrderByReplicas(t *testing.T) {
	for r := range 8 {
		for s := range 8 {
			if r == s {
				continue
			}
			a, b := I(1, 'r', r), I(1, 's', s)
			want := "[rs]"
			if s < r {
				want = "[sr]"
			}
			one, other := made(t, live("[]")), made(t, live("[]"))
			wantDone(t, xform.Apply(one, a, id(8)))
			wantDone(t, xform.Apply(one, xform.T(b, a), id(9)))
			wantDone(t, xform.Apply(other, b, id(9)))
			wantDone(t, xform.Apply(other, xform.T(a, b), id(8)))
			if one.View() != want || other.View() != want {
				t.Errorf("%d and %d: the views are %q and %q", r, s, one.View(), other.View())
			}
		}
	}
}

func TestExampleTwoErases(t *testing.T) {
	m := made(t, live("ab"))
	for _, x := range []struct {
		op    api.Op
		hides int
		view  string
	}{
		{E(0, 0), 1, "b"},
		{xform.T(E(0, 1), E(0, 0)), 2, "b"},
		{R(0, 0), 1, "b"},
		{R(0, 1), 0, "ab"},
	} {
		wantDone(t, xform.Apply(m, x.op, id(9)))
		e, err := m.At(0)
		wantDone(t, err)
		if e.Hides != x.hides || m.View() != x.view {
			t.Errorf("behind %v the Hides is %d, the view %q", x.op, e.Hides, m.View())
		}
	}
}

func TestExampleAlongNoList(t *testing.T) {
	for _, a := range []api.Op{I(0, 'a', 1), E(5, 0), R(5, 7), {}, {Kind: 9, At: -3, Char: -1, Replica: 99}} {
		wantOp(t, "Along", xform.Along(a, nil), a)
		wantOp(t, "Along", xform.Along(a, []api.Op{}), a)
	}
}
