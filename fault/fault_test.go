package fault_test

import (
	"errors"
	"math"
	"slices"
	"testing"

	"barrow/api"
	"barrow/fault"
)

var reasons = []error{
	api.ErrArg, api.ErrRange, api.ErrText, api.ErrFull, api.ErrFrozen, api.ErrForm, api.ErrShort,
	api.ErrOrder, api.ErrTwice, api.ErrEpoch, api.ErrBusy, api.ErrNone, api.ErrRoom,
}

// unnumbered are numbers that no reason has that Has could find.
var unnumbered = []int{math.MinInt, -99, -1, 0, 14, 15, 98, 99, 100, 1 << 32, 1<<32 + 1, math.MaxInt}

func link(layer, call string, at int) api.Link {
	return api.Link{Layer: layer, Call: call, At: at}
}

func wantText(t *testing.T, err error, want string) {
	t.Helper()
	if got := err.Error(); got != want {
		t.Errorf("the text is %q, not %q", got, want)
	}
}

func wantCode(t *testing.T, err error, want int) {
	t.Helper()
	if got := fault.Code(err); got != want {
		t.Errorf("Code is %d, not %d", got, want)
	}
}

func wantCodes(t *testing.T, err error, want ...int) {
	t.Helper()
	if got := fault.Codes(err); !slices.Equal(got, want) {
		t.Errorf("Codes are %v, not %v", got, want)
	}
}

func wantHas(t *testing.T, err error, code int, want bool) {
	t.Helper()
	if got := fault.Has(err, code); got != want {
		t.Errorf("Has of %d is %v", code, got)
	}
}

func wantFirst(t *testing.T, err error, want api.Link) {
	t.Helper()
	if got, ok := fault.First(err); !ok || got != want {
		t.Errorf("First is %v, %v, not %v", got, ok, want)
	}
}

func wantNoFirst(t *testing.T, err error) {
	t.Helper()
	if got, ok := fault.First(err); ok || got != (api.Link{}) {
		t.Errorf("First is %v, %v, not nothing", got, ok)
	}
}

func wantChain(t *testing.T, err error, want ...api.Link) {
	t.Helper()
	if got := fault.Chain(err); !slices.Equal(got, want) {
		t.Errorf("Chain is %v, not %v", got, want)
	}
}

// P1.1

func TestNew(t *testing.T) {
	for given, want := range map[int]int{5: 5, 1: 1, 0: 0, -1: -1, -2: -1, math.MinInt: -1, math.MaxInt: math.MaxInt} {
		f, ok := fault.New("wire", "Number", given, api.ErrShort).(*fault.Fault)
		if !ok || *f != (fault.Fault{Layer: "wire", Call: "Number", At: want, Why: api.ErrShort}) {
			t.Errorf("at %d: %v %+v", given, ok, f)
		}
	}
	for _, at := range []int{-1, 0, 7} {
		if err := fault.New("a", "B", at, nil); err != nil {
			t.Errorf("New of nil at %d is %v", at, err)
		}
	}
	if err := fault.New("", "", 0, api.ErrOther); err == nil || err.(*fault.Fault).Why != api.ErrOther {
		t.Errorf("New without names is %v", err)
	}
}

func TestJoinOfNoneAndOne(t *testing.T) {
	for _, errs := range [][]error{nil, {}, {nil}, {nil, nil, nil}} {
		if err := fault.Join(errs...); err != nil {
			t.Errorf("Join of %v is %v", errs, err)
		}
	}
	ones := []error{api.ErrArg, api.ErrOther, fault.New("a", "B", 0, api.ErrFull), fault.Join(api.ErrArg, api.ErrRange)}
	for _, one := range ones {
		if fault.Join(one) != one || fault.Join(nil, one) != one || fault.Join(one, nil) != one || fault.Join(nil, one, nil) != one {
			t.Errorf("Join of %v alone is not it", one)
		}
	}
}

func TestJoinOfSeveral(t *testing.T) {
	inner := fault.Join(api.ErrArg, api.ErrRange)
	f := fault.New("a", "B", 0, api.ErrFull)
	m, ok := fault.Join(nil, f, nil, nil, inner, api.ErrArg, api.ErrArg, nil).(*fault.Many)
	if !ok || !slices.Equal(m.Errs, []error{f, inner, api.ErrArg, api.ErrArg}) {
		t.Errorf("Join keeps neither the order nor what is joined: %v", m)
	}
	if fault.Join(api.ErrArg, api.ErrRange) == inner {
		t.Error("two Joins are one error")
	}
}

func TestJoinKeepsAListOfItsOwn(t *testing.T) {
	for _, given := range [][]error{{api.ErrArg, api.ErrText}, {nil, api.ErrArg, nil, api.ErrText}} {
		list := append(make([]error, 0, 9), given...)
		before := slices.Clone(list[:9])
		err := fault.Join(list...)
		if !slices.Equal(list[:9], before) {
			t.Errorf("Join changes its arguments: %v", list[:9])
		}
		clear(list[:9])
		wantCodes(t, err, api.CodeArg, api.CodeText)
		m := err.(*fault.Many)
		_ = append(m.Errs, api.ErrRoom)
		if !slices.Equal(list[:9], make([]error, 9)) {
			t.Error("Join's list has its spare room in the arguments")
		}
	}
}

func TestNamed(t *testing.T) {
	for i, reason := range reasons {
		if got := fault.Named(i + 1); got != reason {
			t.Errorf("Named of %d is %v", i+1, got)
		}
	}
	for _, code := range unnumbered {
		want := error(nil)
		if code == api.CodeOther {
			want = api.ErrOther
		}
		if got := fault.Named(code); got != want {
			t.Errorf("Named of %d is %v", code, got)
		}
	}
}

// P1.2

func TestTexts(t *testing.T) {
	deep := fault.New("wire", "Number", 5, api.ErrShort)
	over := fault.New("replica", "Take", -1, deep)
	two := fault.Join(api.ErrArg, api.ErrRange)
	wantText(t, deep, "wire.Number at 5: cut short")
	wantText(t, over, "replica.Take: wire.Number at 5: cut short")
	wantText(t, two, "bad argument; out of range")
	wantText(t, fault.New("a", "B", 0, api.ErrOther), "a.B at 0: something else")
	wantText(t, fault.New("a", "B", -7, api.ErrOther), "a.B: something else")
	wantText(t, fault.New("a", "B", math.MaxInt64, api.ErrRoom), "a.B at 9223372036854775807: no room")
	wantText(t, fault.New("", "", 10, api.ErrRoom), ". at 10: no room")
	wantText(t, fault.New("é; ", "\x00: ", -1, api.ErrRoom), "é; .\x00: : no room")
	wantText(t, fault.New("a", "B", 1, two), "a.B at 1: bad argument; out of range")
	wantText(t, fault.Join(over, two, deep), "replica.Take: wire.Number at 5: cut short; bad argument; out of range; wire.Number at 5: cut short")
	wantText(t, fault.Join(fault.Join(two, two), api.ErrBusy), "bad argument; out of range; bad argument; out of range; busy")
	wantText(t, fault.New("a", "B", 2, fault.Join(fault.New("c", "D", 3, two), api.ErrNone)), "a.B at 2: c.D at 3: bad argument; out of range; nothing there")
	for code, text := range map[int]string{1: "bad argument", 7: "cut short", 12: "nothing there", 13: "no room", 99: "something else"} {
		wantText(t, fault.Named(code), text)
	}
}

// P1.3

func TestUnwrap(t *testing.T) {
	for _, why := range []error{api.ErrArg, fault.New("a", "B", 0, api.ErrArg), fault.Join(api.ErrArg, api.ErrArg)} {
		f := fault.New("c", "D", 0, why)
		if errors.Unwrap(f) != why || f.(*fault.Fault).Unwrap() != why {
			t.Errorf("what a Fault wraps is not %v", why)
		}
	}
	errs := []error{fault.New("a", "B", 0, api.ErrArg), api.ErrText, fault.Join(api.ErrArg, api.ErrArg)}
	m := fault.Join(errs...).(*fault.Many)
	first, second := m.Unwrap(), m.Unwrap()
	if !slices.Equal(first, errs) || !slices.Equal(second, errs) {
		t.Errorf("what a Many wraps is %v", first)
	}
	_ = append(first, api.ErrRoom)
	clear(first[:cap(first)])
	if !slices.Equal(second, errs) || !slices.Equal(m.Errs, errs) || !slices.Equal(m.Unwrap(), errs) {
		t.Error("the list that Unwrap tells is not the caller's own")
	}
}

func TestOrderOfGoingThrough(t *testing.T) {
	left := fault.New("l", "L", 1, fault.Join(api.ErrText, fault.New("m", "M", 2, api.ErrFull)))
	right := fault.Join(fault.Join(api.ErrForm, api.ErrShort), fault.New("r", "R", 3, api.ErrArg))
	all := fault.Join(api.ErrOther, left, right, api.ErrText)
	wantCodes(t, all, 3, 4, 6, 7, 1, 3)
	wantFirst(t, all, link("l", "L", 1))
	wantFirst(t, right, link("r", "R", 3))
	wantCode(t, right, 6)
}

// P1.4

func TestCodesOfReasons(t *testing.T) {
	for i, reason := range reasons {
		code := i + 1
		for _, err := range []error{reason, fault.New("a", "B", i, reason), fault.New("a", "B", i, fault.New("c", "D", 0, reason))} {
			wantCode(t, err, code)
			wantCodes(t, err, code)
			for other := 1; other <= 13; other++ {
				wantHas(t, err, other, other == code)
			}
			for _, other := range unnumbered {
				wantHas(t, err, other, false)
			}
		}
	}
}

func TestErrOtherHasNoNumber(t *testing.T) {
	for _, err := range []error{api.ErrOther, fault.New("a", "B", 0, api.ErrOther), fault.Join(api.ErrOther, api.ErrOther)} {
		wantCode(t, err, api.CodeOther)
		wantCodes(t, err)
		for code := range 100 {
			wantHas(t, err, code, false)
		}
	}
	mixed := fault.Join(api.ErrOther, api.ErrRoom, api.ErrOther)
	wantCode(t, mixed, api.CodeRoom)
	wantCodes(t, mixed, api.CodeRoom)
	wantHas(t, mixed, api.CodeOther, false)
}

func TestCodesAreToldAsOftenAsMet(t *testing.T) {
	f := fault.New("a", "B", 0, api.ErrText)
	two := fault.Join(api.ErrRange, f)
	wantCodes(t, fault.Join(f, api.ErrText, f), 3, 3, 3)
	wantCodes(t, fault.Join(two, two), 2, 3, 2, 3)
	four := fault.New("a", "B", 0, fault.Join(two, two))
	wantCodes(t, fault.Join(api.ErrArg, four, two, api.ErrArg, four), 1, 2, 3, 2, 3, 2, 3, 1, 2, 3, 2, 3)
	blank := fault.Join(api.ErrOther, api.ErrOther)
	wantCodes(t, fault.Join(blank, api.ErrArg, blank, blank), 1)
}

func TestNothingInNil(t *testing.T) {
	wantCode(t, nil, api.CodeNone)
	wantCodes(t, nil)
	wantNoFirst(t, nil)
	wantChain(t, nil)
	for code := -1; code < 101; code++ {
		wantHas(t, nil, code, false)
	}
}

func TestAnswersAreNewMemory(t *testing.T) {
	two := fault.Join(api.ErrArg, fault.New("a", "B", 0, api.ErrRange))
	err := fault.New("c", "D", 1, fault.Join(fault.New("e", "F", 2, two), two))
	codes, links := fault.Codes(err), fault.Chain(err)
	for i := range codes {
		codes[i] = 77
	}
	clear(links)
	wantCodes(t, err, 1, 2, 1, 2)
	wantChain(t, err, link("c", "D", 1), link("e", "F", 2))
}

// P1.5

func TestFirst(t *testing.T) {
	f := fault.New("a", "B", 4, api.ErrArg)
	g := fault.New("c", "D", -1, f)
	wantFirst(t, f, link("a", "B", 4))
	wantFirst(t, g, link("c", "D", -1))
	wantFirst(t, fault.Join(api.ErrArg, api.ErrOther, f, g), link("a", "B", 4))
	wantFirst(t, fault.Join(fault.Join(api.ErrArg, api.ErrArg), fault.Join(api.ErrOther, g), f), link("c", "D", -1))
	wantNoFirst(t, api.ErrArg)
	wantNoFirst(t, api.ErrOther)
	wantNoFirst(t, fault.Join(api.ErrArg, fault.Join(api.ErrOther, api.ErrArg)))
}

func TestChain(t *testing.T) {
	f := fault.New("a", "B", 4, api.ErrArg)
	g := fault.New("c", "D", -3, f)
	wantChain(t, f, link("a", "B", 4))
	wantChain(t, g, link("c", "D", -1), link("a", "B", 4))
	wantChain(t, api.ErrArg)
	wantChain(t, api.ErrOther)
	wantChain(t, fault.Join(f, g), link("a", "B", 4))
	wantChain(t, fault.Join(api.ErrArg, g))
	through := fault.New("x", "X", 0, fault.Join(fault.Join(fault.New("y", "Y", 1, fault.Join(g, f)), api.ErrArg), g))
	wantChain(t, through, link("x", "X", 0), link("y", "Y", 1), link("c", "D", -1), link("a", "B", 4))
	wantChain(t, fault.New("x", "X", 0, fault.Join(api.ErrRoom, g)), link("x", "X", 0))
}

// The chapter's table 'Runs', row by row, and its examples.

func TestRuns(t *testing.T) {
	deep := fault.New("wire", "Number", 5, api.ErrShort)
	wantText(t, deep, "wire.Number at 5: cut short")
	wantCode(t, deep, 7)
	wantChain(t, deep, link("wire", "Number", 5))

	over := fault.New("replica", "Take", -1, deep)
	wantText(t, over, "replica.Take: wire.Number at 5: cut short")
	wantCode(t, over, 7)
	wantChain(t, over, link("replica", "Take", -1), link("wire", "Number", 5))
	wantFirst(t, over, link("replica", "Take", -1))

	if fault.New("a", "B", 0, nil) != nil {
		t.Error("New of nil")
	}

	if fault.Join() != nil || fault.Join(nil, api.ErrArg, nil) != api.ErrArg {
		t.Error("Join of none, of one")
	}
	two := fault.Join(api.ErrArg, nil, api.ErrRange)
	wantText(t, two, "bad argument; out of range")
	wantCodes(t, two, 1, 2)
	wantCode(t, two, 1)
	wantHas(t, two, 2, true)
	wantHas(t, two, 3, false)

	mixed := fault.Join(api.ErrOther, fault.New("a", "B", 0, api.ErrRoom))
	wantCode(t, mixed, 13)
	wantCodes(t, mixed, 13)
	wantFirst(t, mixed, link("a", "B", 0))
	wantChain(t, mixed)

	wantCode(t, api.ErrOther, 99)
	wantCodes(t, api.ErrOther)
	wantHas(t, api.ErrOther, 99, false)

	if fault.Named(1) != api.ErrArg || fault.Named(13) != api.ErrRoom || fault.Named(99) != api.ErrOther {
		t.Error("Named of a reason's number")
	}
	if fault.Named(0) != nil || fault.Named(14) != nil || fault.Named(-1) != nil {
		t.Error("Named of no reason's number")
	}

	wantCode(t, nil, 0)
	wantCodes(t, nil)
	wantHas(t, nil, 0, false)
	wantNoFirst(t, nil)
	wantChain(t, nil)
}

func TestExamples(t *testing.T) {
	if !errors.Is(fault.New("a", "B", 0, api.ErrFull), api.ErrFull) {
		t.Error("example 1")
	}
	if fault.New("a", "B", 0, api.ErrFull) == fault.New("a", "B", 0, api.ErrFull) {
		t.Error("example 2")
	}
	if fault.Code(fault.New("a", "B", 0, api.ErrOther)) != 99 {
		t.Error("example 3")
	}
}
