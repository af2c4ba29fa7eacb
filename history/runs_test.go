package history_test

import (
	"slices"
	"testing"

	"barrow/api"
	"barrow/history"
)

// sites are Logs of one base.
func sites(t testing.TB, n int, base []api.Element) []*history.Log {
	t.Helper()
	var l []*history.Log
	for range n {
		l = append(l, begun(t, 0, base))
	}
	return l
}

// wantAll: all sites have one row, and this view.
func wantAll(t testing.TB, l []*history.Log, view string) {
	t.Helper()
	for _, x := range l {
		wantView(t, x, view)
		if got, want := x.Model().Elements(), l[0].Model().Elements(); !slices.Equal(got, want) {
			t.Errorf("the elements are %v, and %v", got, want)
		}
	}
}

// Each row of the chapter's table.
func TestRuns(t *testing.T) {
	t.Run("an act's clock", func(t *testing.T) {
		l := sites(t, 2, nil)
		take(t, l[1], issue(t, l[0], I(0, 'a', 0)), issue(t, l[0], I(1, 'b', 0)))
		act := issue(t, l[1], E(0, 1))
		if act != (api.Act{Op: E(0, 1), Number: 1, Clock: api.Clock{2, 0}}) {
			t.Errorf("the act is %v", act)
		}
		wantView(t, l[1], "b")
	})
	t.Run("two at one place", func(t *testing.T) {
		l := sites(t, 2, nil)
		a, b := issue(t, l[0], I(0, 'a', 0)), issue(t, l[1], I(0, 'b', 1))
		wantOp(t, "the form at 0", take(t, l[0], b), I(1, 'b', 1))
		wantOp(t, "the form at 1", take(t, l[1], a), I(0, 'a', 0))
		wantAll(t, l, "ab")
	})
	t.Run("erased twice", func(t *testing.T) {
		l := sites(t, 3, old("abc"))
		acts := []api.Act{issue(t, l[0], E(1, 0)), issue(t, l[1], I(2, 'x', 1)), issue(t, l[2], E(1, 2))}
		take(t, l[0], acts[1], acts[2])
		take(t, l[1], acts[2], acts[0])
		take(t, l[2], acts[0], acts[1])
		wantAll(t, l, "axc")
		if e, err := l[0].Model().At(1); e.Char != 'b' || e.Hides != 2 || err != nil {
			t.Errorf("b is %v, %v", e, err)
		}
	})
	t.Run("two texts", func(t *testing.T) {
		l := sites(t, 2, nil)
		var abc, xyz []api.Act
		for i := range 3 {
			abc = append(abc, issue(t, l[0], I(i, 'a'+rune(i), 0)))
			xyz = append(xyz, issue(t, l[1], I(i, 'x'+rune(i), 1)))
		}
		take(t, l[0], xyz...)
		take(t, l[1], abc...)
		wantAll(t, l, "abcxyz")
	})
	t.Run("behind y", func(t *testing.T) {
		l := sites(t, 4, nil)
		y := issue(t, l[1], I(0, 'y', 1))
		take(t, l[3], y)
		x := issue(t, l[3], I(0, 'x', 3))
		o := issue(t, l[2], I(0, 'o', 2))
		wantOp(t, "the form", take(t, l[0], y, x, o), I(2, 'o', 2))
		take(t, l[1], o, x)
		take(t, l[2], y, x)
		take(t, l[3], o)
		wantAll(t, l, "xyo")
	})
	t.Run("refused", func(t *testing.T) {
		l := sites(t, 2, nil)
		one, two := issue(t, l[0], I(0, 'a', 0)), issue(t, l[0], I(1, 'b', 0))
		refuseAct(t, l[1], two, api.ErrOrder)
		take(t, l[1], one)
		refuseAct(t, l[1], one, api.ErrTwice)
		refuseAct(t, l[1], api.Act{Op: I(0, 'c', 0), Number: 0}, api.ErrForm)
		refuseAct(t, l[1], api.Act{Op: I(0, 'c', 0), Number: 2, Clock: api.Clock{1, -1}}, api.ErrForm)
		refuseAct(t, l[1], api.Act{Op: E(0, 2), Number: 1}, api.ErrRange)
	})
	t.Run("Act and Form", func(t *testing.T) {
		l := begun(t, 0, nil)
		_, err := l.Act(-1)
		wantRefusal(t, err, "Act", -1, api.ErrRange)
		_, err = l.Form(5)
		wantRefusal(t, err, "Form", 5, api.ErrRange)
	})
	t.Run("Next", func(t *testing.T) {
		l := begun(t, 3, nil)
		issue(t, l, I(0, 'a', 0))
		issue(t, l, I(1, 'b', 0))
		issue(t, l, E(0, 0))
		if gone := l.Next(); gone != 1 {
			t.Errorf("%d elements went", gone)
		}
		wantTold(t, l, state{epoch: 4, elements: []api.Element{{ID: api.ID{Epoch: 3, Number: 2}, Char: 'b'}}})
	})
	t.Run("the zero clock", func(t *testing.T) {
		l := begun(t, 0, old("xyz"))
		issue(t, l, I(0, 'a', 0))
		issue(t, l, E(0, 1))
		past, beside := l.Split(api.Clock{})
		wantInts(t, "past", past, nil)
		wantInts(t, "beside", beside, []int{0, 1})
		if n := l.Context(api.Clock{}); n != 3 {
			t.Errorf("the context has %d elements", n)
		}
	})
}

func TestExampleFormOfAnIssuedAct(t *testing.T) {
	l := begun(t, 0, nil)
	take(t, l, api.Act{Op: I(0, 'x', 7), Number: 1})
	for i, op := range []api.Op{I(0, 'a', 0), I(2, 'b', 0), E(1, 3), R(1, 3), I(1, 'c', 7)} {
		issue(t, l, op)
		form, err := l.Form(i + 1)
		if err != nil {
			t.Errorf("Form answers %v", err)
		}
		wantOp(t, "the form", form, op)
	}
}

func TestExampleContextOfTheClock(t *testing.T) {
	l := begun(t, 0, old("ab"))
	for _, op := range []api.Op{I(0, 'a', 0), E(2, 0), I(2, 'b', 0), E(1, 3), I(1, 'c', 7)} {
		issue(t, l, op)
		if got, want := l.Context(l.Clock()), l.Model().Len(); got != want {
			t.Errorf("the context has %d elements, the Model %d", got, want)
		}
	}
}

func TestExampleTwoErases(t *testing.T) {
	l := sites(t, 2, old("abc"))
	one, other := issue(t, l[0], E(1, 0)), issue(t, l[1], E(1, 1))
	take(t, l[0], other)
	take(t, l[1], one)
	wantAll(t, l, "ac")
	for _, x := range l {
		if e, _ := x.Model().At(1); e.Hides != 2 {
			t.Errorf("the Hides is %d", e.Hides)
		}
	}
}
