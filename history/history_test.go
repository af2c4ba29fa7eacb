package history_test

import (
	"errors"
	"math"
	"slices"
	"testing"

	"barrow/api"
	"barrow/fault"
	"barrow/history"
)

const (
	most  = math.MaxInt
	least = math.MinInt
	brink = 1 << 40 // the greatest epoch, and the greatest Hides
)

func I(p int, c rune, r int) api.Op { return api.Op{Kind: api.Insert, At: p, Char: c, Replica: r} }
func E(p, r int) api.Op             { return api.Op{Kind: api.Erase, At: p, Replica: r} }
func R(p, r int) api.Op             { return api.Op{Kind: api.Restore, At: p, Replica: r} }

// old is a row of live elements of an earlier time.
func old(text string) []api.Element {
	var l []api.Element
	for _, c := range text {
		l = append(l, api.Element{ID: api.ID{Epoch: -1, Number: len(l) + 1}, Char: c})
	}
	return l
}

func begun(t testing.TB, epoch int, base []api.Element) *history.Log {
	t.Helper()
	l, err := history.New(epoch, base)
	if err != nil || l == nil {
		t.Fatalf("New answers %v, %v", l, err)
	}
	return l
}

func issue(t testing.TB, l *history.Log, op api.Op) api.Act {
	t.Helper()
	act, err := l.Issue(op)
	if err != nil {
		t.Fatalf("Issue of %v answers %v", op, err)
	}
	return act
}

// take is Take of some acts, each of which Place must foretell: the last form.
func take(t testing.TB, l *history.Log, acts ...api.Act) (form api.Op) {
	t.Helper()
	for _, act := range acts {
		before := told(l)
		place, err := l.Place(act)
		if err != nil {
			t.Fatalf("Place of %v answers %v", act, err)
		}
		wantTold(t, l, before)
		form, err = l.Take(act)
		if err != nil || form != place {
			t.Fatalf("Take of %v answers %v, %v; Place %v", act, form, err, place)
		}
	}
	return form
}

// A state is all that a Log tells.
type state struct {
	epoch    int
	clock    api.Clock
	acts     []api.Act
	forms    []api.Op
	elements []api.Element
}

func told(l *history.Log) state {
	s := state{epoch: l.Epoch(), clock: l.Clock(), acts: l.Acts(), elements: l.Model().Elements()}
	for i := range l.Len() {
		form, _ := l.Form(i)
		s.forms = append(s.forms, form)
	}
	return s
}

func wantTold(t testing.TB, l *history.Log, want state) {
	t.Helper()
	got := told(l)
	if got.epoch != want.epoch || got.clock != want.clock || !slices.Equal(got.acts, want.acts) ||
		!slices.Equal(got.forms, want.forms) || !slices.Equal(got.elements, want.elements) {
		t.Fatalf("the Log tells %v, not %v", got, want)
	}
}

func wantView(t testing.TB, l *history.Log, want string) {
	t.Helper()
	if got := l.Model().View(); got != want {
		t.Errorf("the view is %q, not %q", got, want)
	}
}

func wantOp(t testing.TB, what string, got, want api.Op) {
	t.Helper()
	if got != want {
		t.Errorf("%s is %v, not %v", what, got, want)
	}
}

func wantInts(t testing.TB, what string, got, want []int) {
	t.Helper()
	if !slices.Equal(got, want) {
		t.Errorf("%s are %v, not %v", what, got, want)
	}
}

// wantRefusal: a refusal of this layer with a bare reason.
func wantRefusal(t testing.TB, err error, call string, at int, why error) {
	t.Helper()
	f, ok := err.(*fault.Fault)
	if !ok || *f != (fault.Fault{Layer: "history", Call: call, At: max(at, -1), Why: why}) {
		t.Errorf("the error is %v, not history.%s at %d: %v", err, call, at, why)
	}
}

func link(layer, call string, at int) api.Link {
	return api.Link{Layer: layer, Call: call, At: max(at, -1)}
}

// wantWrapped: a refusal of lower layers.
func wantWrapped(t testing.TB, err error, why error, chain ...api.Link) {
	t.Helper()
	if !errors.Is(err, why) || !slices.Equal(fault.Chain(err), chain) {
		t.Errorf("the error is %v, not %v by %v", err, why, chain)
	}
}

// wrongOps are operations that are not right, each for one reason.
func wrongOps() []api.Op {
	return []api.Op{
		{}, {Kind: 4}, {Kind: -1}, {Kind: least}, {Kind: most},
		I(0, 'c', 8), I(0, 'c', -1), I(0, 'c', most), I(0, 'c', least), E(0, 8), E(0, -1), R(0, 8), R(0, least),
		I(0, -1, 0), I(0, 0xD800, 0), I(0, 0xDFFF, 0), I(0, api.MaxChar+1, 0),
		{Kind: api.Erase, Char: 'x'}, {Kind: api.Restore, Char: -1},
	}
}

// P8.1
func TestNew(t *testing.T) {
	for _, epoch := range []int{0, 1, 77, brink - 1, brink} {
		base := old("abc")
		base[1].Hides = 3
		l := begun(t, epoch, base)
		wantTold(t, l, state{epoch: epoch, elements: base})
		if l.Len() != 0 {
			t.Errorf("a new Log has %d acts", l.Len())
		}
	}
	wantTold(t, begun(t, 5, nil), state{epoch: 5})
	wantTold(t, begun(t, 5, []api.Element{}), state{epoch: 5})
}

// P8.1
func TestNewRefuses(t *testing.T) {
	twice := append(old("ab"), old("a")...)
	for _, epoch := range []int{-1, least, brink + 1, most} {
		for _, base := range [][]api.Element{nil, old("ab"), twice} {
			l, err := history.New(epoch, base)
			wantRefusal(t, err, "New", epoch, api.ErrArg)
			if l != nil {
				t.Error("a Log beside an error")
			}
		}
	}
	text, hides := old("abc"), old("abc")
	text[1].Char = 0xD800
	hides[0].Hides = brink + 1
	for _, x := range []struct {
		base []api.Element
		at   int
		why  error
	}{
		{twice, 2, api.ErrTwice},
		{text, 1, api.ErrText},
		{hides, 0, api.ErrArg},
	} {
		l, err := history.New(3, x.base)
		wantWrapped(t, err, x.why, link("history", "New", 3), link("model", "Of", x.at))
		if l != nil {
			t.Error("a Log beside an error")
		}
	}
}

// P8.1: the base may hold any IDs.
func TestBaseOfAnyIDs(t *testing.T) {
	base := []api.Element{
		{ID: api.ID{Epoch: -5, Replica: -6, Number: -7}, Char: 'a'},
		{ID: api.ID{Epoch: most, Replica: most, Number: most}, Char: 'b', Hides: -brink},
		{ID: api.ID{Replica: 99, Number: 1}, Char: 'c', Hides: brink},
		{ID: api.ID{}, Char: 'd'},
		{ID: api.ID{Number: 9}, Char: 'e'},
	}
	l := begun(t, 0, base)
	wantTold(t, l, state{elements: base})
	act := issue(t, l, I(5, 'x', 0))
	if n := l.Context(act.Clock); n != 5 {
		t.Errorf("the context has %d elements, not 5", n)
	}
	wantOp(t, "the form", take(t, l, api.Act{Op: I(5, 'y', 7), Number: 1}), I(6, 'y', 7))
}

// R2: what is handed in is not kept, and not changed.
func TestNewKeepsNoList(t *testing.T) {
	room := append(old("abc"), old("zz")...)
	base := room[:3]
	l := begun(t, 0, base)
	issue(t, l, E(0, 1))
	issue(t, l, I(3, 'd', 1))
	if !slices.Equal(room, append(old("abc"), old("zz")...)) {
		t.Errorf("the base has become %v", room)
	}
	base[1].Char = '?'
	wantView(t, l, "bcd")
}

// P8.1: always the same one until Next.
func TestModelIsTheSame(t *testing.T) {
	l := begun(t, 0, old("ab"))
	m := l.Model()
	issue(t, l, I(0, 'x', 0))
	take(t, l, api.Act{Op: E(1, 3), Number: 1})
	l.Take(api.Act{})
	l.Issue(api.Op{})
	if l.Model() != m || m.View() != "xa" {
		t.Errorf("the Model is another one, or shows %q", m.View())
	}
}

// P8.2
func TestTold(t *testing.T) {
	l := begun(t, 4, old("ab"))
	one := issue(t, l, I(1, 'x', 6))
	other := api.Act{Op: I(1, 'y', 7), Number: 1}
	take(t, l, other)
	two := issue(t, l, E(0, 6))
	wantAct := []api.Act{
		{Op: I(1, 'x', 6), Number: 1},
		{Op: I(1, 'y', 7), Number: 1},
		{Op: E(0, 6), Number: 2, Clock: api.Clock{6: 1, 7: 1}},
	}
	if got := []api.Act{one, other, two}; !slices.Equal(got, wantAct) {
		t.Errorf("the acts are %v, not %v", got, wantAct)
	}
	wantForm := []api.Op{I(1, 'x', 6), I(2, 'y', 7), E(0, 6)}
	for i, want := range wantAct {
		act, err := l.Act(i)
		form, err2 := l.Form(i)
		if act != want || form != wantForm[i] || err != nil || err2 != nil {
			t.Errorf("act %d is %v, %v, its form %v, %v", i, act, err, form, err2)
		}
	}
	if got := l.Acts(); !slices.Equal(got, wantAct) {
		t.Errorf("Acts are %v", got)
	}
	if l.Epoch() != 4 || l.Len() != 3 || l.Clock() != (api.Clock{6: 2, 7: 1}) {
		t.Errorf("Epoch, Len, Clock are %d, %d, %v", l.Epoch(), l.Len(), l.Clock())
	}
	for _, i := range []int{-1, 3, 4, least, most} {
		act, err := l.Act(i)
		wantRefusal(t, err, "Act", i, api.ErrRange)
		form, err := l.Form(i)
		wantRefusal(t, err, "Form", i, api.ErrRange)
		if act != (api.Act{}) || form != (api.Op{}) {
			t.Errorf("%v and %v beside an error", act, form)
		}
	}
	_, err := begun(t, 0, nil).Act(0)
	wantRefusal(t, err, "Act", 0, api.ErrRange)
}

// R2: lists that are told are the caller's own.
func TestListsAreNew(t *testing.T) {
	l := begun(t, 0, nil)
	for i := range 5 {
		issue(t, l, I(i, 'a', i%2))
	}
	before := told(l)
	acts := l.Acts()
	past, beside := l.Split(api.Clock{2})
	for i := range acts {
		acts[i] = api.Act{Number: 99}
	}
	acts = append(acts, api.Act{Number: 98})
	issue(t, l, I(0, 'z', 7))
	if acts[5].Number != 98 {
		t.Error("the Log has written to a list that it told")
	}
	past = append(past, 77)
	wantInts(t, "beside", beside, []int{1, 3, 4})
	_ = append(beside, 78)
	wantInts(t, "past", past, []int{0, 2, 77})
	before.acts = append(before.acts, api.Act{Op: I(0, 'z', 7), Number: 1, Clock: before.clock})
	if got := l.Acts(); !slices.Equal(got, before.acts) {
		t.Errorf("Acts are %v, not %v", got, before.acts)
	}
}

// P8.3
func TestIssue(t *testing.T) {
	l := begun(t, 3, old("ab"))
	for _, x := range []struct {
		op    api.Op
		act   int
		clock api.Clock
		view  string
	}{
		{I(2, 'c', 0), 1, api.Clock{}, "abc"},
		{I(0, 'd', 7), 1, api.Clock{1}, "dabc"},
		{I(1, 'e', 0), 2, api.Clock{0: 1, 7: 1}, "deabc"},
		{E(4, 0), 3, api.Clock{0: 2, 7: 1}, "deab"},
		{R(4, 5), 1, api.Clock{0: 3, 7: 1}, "deabc"},
		{R(4, 5), 2, api.Clock{0: 3, 5: 1, 7: 1}, "deabc"},
		{E(4, 5), 3, api.Clock{0: 3, 5: 2, 7: 1}, "deabc"},
		{I(5, 0, 3), 1, api.Clock{0: 3, 5: 3, 7: 1}, "deabc\x00"},
		{I(0, api.MaxChar, 3), 2, api.Clock{0: 3, 3: 1, 5: 3, 7: 1}, "\U0010FFFFdeabc\x00"},
	} {
		act := issue(t, l, x.op)
		if act != (api.Act{Op: x.op, Number: x.act, Clock: x.clock}) {
			t.Errorf("the act is %v", act)
		}
		form, err := l.Form(l.Len() - 1)
		if form != x.op || err != nil {
			t.Errorf("the form is %v, %v", form, err)
		}
		wantView(t, l, x.view)
	}
	for id, place := range map[api.ID]int{{Epoch: 3, Replica: 0, Number: 1}: 5, {Epoch: 3, Replica: 7, Number: 1}: 1, {Epoch: 3, Replica: 0, Number: 2}: 2} {
		if i, ok := l.Model().Index(id); i != place || !ok {
			t.Errorf("%v stands at %d, %v", id, i, ok)
		}
	}
}

// P8.3
func TestIssueRefuses(t *testing.T) {
	base := old("abc")
	base[1].Hides, base[2].Hides = brink, -brink
	base = append(base, api.Element{ID: api.ID{Epoch: 6, Replica: 2, Number: 1}, Char: 'z'})
	l := begun(t, 6, base)
	issue(t, l, E(0, 1))
	before := told(l)
	refuse := func(op api.Op, why error, more ...api.Link) {
		t.Helper()
		act, err := l.Issue(op)
		chain := append([]api.Link{link("history", "Issue", op.At), link("xform", "Apply", op.At)}, more...)
		wantWrapped(t, err, why, chain...)
		if act != (api.Act{}) {
			t.Errorf("%v beside an error", act)
		}
		wantTold(t, l, before)
	}
	for _, at := range []int{0, 2, -1, 99, least, most} {
		for _, op := range wrongOps() {
			op.At = at
			refuse(op, api.ErrArg)
		}
	}
	for _, op := range []api.Op{E(4, 0), E(-1, 0), R(4, 0), I(5, 'c', 0), I(-1, 'c', 0), I(most, 'c', 0), E(least, 7)} {
		refuse(op, api.ErrRange)
	}
	refuse(E(1, 0), api.ErrArg, link("model", "Add", 1))
	refuse(R(2, 0), api.ErrArg, link("model", "Add", 2))
	refuse(I(4, 'c', 2), api.ErrTwice, link("model", "Insert", 4))
	if act := issue(t, l, I(4, 'c', 0)); act.Number != 1 {
		t.Errorf("what was refused has a number: %v", act)
	}
}

// P8.1, P8.3: an ID of the base is in the way of an Insert of that number
// alone.
func TestIssuePastAnIDOfTheBase(t *testing.T) {
	base := []api.Element{{ID: api.ID{Replica: 2, Number: 2}, Char: 'z'}}
	l := begun(t, 0, base)
	issue(t, l, I(0, 'a', 2))
	_, err := l.Issue(I(1, 'b', 2))
	wantWrapped(t, err, api.ErrTwice, link("history", "Issue", 1), link("xform", "Apply", 1), link("model", "Insert", 1))
	issue(t, l, E(1, 2))
	if act := issue(t, l, I(1, 'c', 2)); act.Number != 3 {
		t.Errorf("the act is %v", act)
	}
	wantView(t, l, "ac")
}

// refuseAct: Take and Place refuse an act alike, and nothing changes.
func refuseAct(t testing.TB, l *history.Log, act api.Act, why error) {
	t.Helper()
	before := told(l)
	form, err := l.Take(act)
	wantRefusal(t, err, "Take", act.Number, why)
	if form != (api.Op{}) {
		t.Errorf("%v beside an error", form)
	}
	form, err = l.Place(act)
	wantRefusal(t, err, "Place", act.Number, why)
	if form != (api.Op{}) {
		t.Errorf("%v beside an error", form)
	}
	wantTold(t, l, before)
}

// P8.4
func TestTakeRefusesTheForm(t *testing.T) {
	l := begun(t, 0, old("abc"))
	issue(t, l, I(0, 'x', 1))
	issue(t, l, I(0, 'x', 2))
	for _, op := range wrongOps() {
		for _, at := range []int{0, -1, most} {
			op.At = at
			refuseAct(t, l, api.Act{Op: op, Number: 1}, api.ErrForm)
		}
		if op.Replica == 0 { // though an act of that number is there
			op.Replica = 1
			refuseAct(t, l, api.Act{Op: op, Number: 1}, api.ErrForm)
		}
	}
	for _, number := range []int{0, -1, least, least + 1} {
		refuseAct(t, l, api.Act{Op: E(0, 0), Number: number}, api.ErrForm)
		refuseAct(t, l, api.Act{Op: E(0, 0), Number: number, Clock: api.Clock{number - 1}}, api.ErrForm)
	}
	for r := range 8 {
		for _, entry := range []int{-1, least} {
			act := api.Act{Op: E(0, 0), Number: 1}
			act.Clock[r] = entry
			refuseAct(t, l, act, api.ErrForm)
		}
	}
	for _, entry := range []int{0, 1, 3, 4, most} {
		refuseAct(t, l, api.Act{Op: E(0, 1), Number: 3, Clock: api.Clock{1: entry}}, api.ErrForm)
	}
	refuseAct(t, l, api.Act{Op: E(0, 1), Number: 1, Clock: api.Clock{1: 1}}, api.ErrForm)
}

// P8.4
func TestTakeRefusesTwice(t *testing.T) {
	l := begun(t, 0, old("abc"))
	one := issue(t, l, I(0, 'x', 1))
	two := issue(t, l, E(3, 1))
	three := api.Act{Op: I(0, 'y', 5), Number: 1}
	take(t, l, three)
	for _, act := range []api.Act{
		one, two, three,
		{Op: E(99, 1), Number: 1},                           // of another operation
		{Op: E(99, 1), Number: 2, Clock: api.Clock{9, 1}},   // that is not ready
		{Op: I(-1, 'c', 5), Number: 1, Clock: api.Clock{4}}, // and not valid
	} {
		refuseAct(t, l, act, api.ErrTwice)
	}
}

// P8.4
func TestTakeRefusesTheOrder(t *testing.T) {
	l := begun(t, 0, old("abc"))
	issue(t, l, I(0, 'x', 1))
	for _, act := range []api.Act{
		{Op: E(0, 1), Number: 3, Clock: api.Clock{1: 2}},
		{Op: E(0, 0), Number: 2, Clock: api.Clock{1}},
		{Op: E(0, 1), Number: 2, Clock: api.Clock{1: 1, 7: 1}},
		{Op: E(0, 0), Number: 1, Clock: api.Clock{1: 2}},
		{Op: E(0, 0), Number: 1, Clock: api.Clock{1: most}},
		{Op: E(0, 0), Number: most, Clock: api.Clock{most - 1}},
		{Op: E(-9, 0), Number: 2, Clock: api.Clock{1}}, // that is not valid either
		{Op: I(most, 'x', 0), Number: 1, Clock: api.Clock{2: 1}},
	} {
		refuseAct(t, l, act, api.ErrOrder)
	}
}

// P8.4: an operation must be valid on its context, whatever the Model has.
func TestTakeRefusesTheRange(t *testing.T) {
	l := begun(t, 0, old("ab"))
	for i := range 4 {
		issue(t, l, I(i, 'x', 1))
	}
	for known := range 5 {
		n := 2 + known
		c := api.Clock{1: known}
		for _, op := range []api.Op{E(n, 0), E(-1, 0), R(n, 0), R(least, 0), I(n+1, 'c', 0), I(-1, 'c', 0), I(most, 'c', 0), E(most, 0)} {
			refuseAct(t, l, api.Act{Op: op, Number: 1, Clock: c}, api.ErrRange)
		}
		for _, op := range []api.Op{E(n-1, 0), E(0, 0), R(n-1, 0), I(n, 'c', 0), I(0, 'c', 0)} {
			if _, err := l.Place(api.Act{Op: op, Number: 1, Clock: c}); err != nil {
				t.Errorf("%v is refused in a context of %d: %v", op, n, err)
			}
		}
	}
	refuseAct(t, begun(t, 0, nil), api.Act{Op: E(0, 0), Number: 1}, api.ErrRange)
}

// P8.4: what xform.Apply refuses is wrapped; Place doesn't refuse it.
func TestTakeRefusesWhatApplyRefuses(t *testing.T) {
	base := old("abc")
	base[1].Hides, base[2].Hides = brink, -brink
	base = append(base, api.Element{ID: api.ID{Epoch: 6, Replica: 2, Number: 1}, Char: 'z'})
	l := begun(t, 6, base)
	issue(t, l, I(0, 'x', 1))
	for _, x := range []struct {
		op, form api.Op
		why      error
		call     string
	}{
		{I(2, 'c', 2), I(3, 'c', 2), api.ErrTwice, "Insert"},
		{E(1, 0), E(2, 0), api.ErrArg, "Add"},
		{R(2, 0), R(3, 0), api.ErrArg, "Add"},
	} {
		act := api.Act{Op: x.op, Number: 1}
		before := told(l)
		form, err := l.Take(act)
		wantWrapped(t, err, x.why, link("history", "Take", 1), link("xform", "Apply", x.form.At), link("model", x.call, x.form.At))
		wantOp(t, "the form beside an error", form, api.Op{})
		form, err = l.Place(act)
		if err != nil {
			t.Errorf("Place refuses %v: %v", act, err)
		}
		wantOp(t, "the place", form, x.form)
		wantTold(t, l, before)
	}
	wantOp(t, "the form", take(t, l, api.Act{Op: R(1, 0), Number: 1}), R(2, 0))
}

// P8.4: what is taken is delivered as it came, with its form.
func TestTake(t *testing.T) {
	l := begun(t, 2, old("ab"))
	issue(t, l, I(1, 'x', 4))
	for _, x := range []struct {
		act  api.Act
		form api.Op
		view string
	}{
		{api.Act{Op: I(1, 'y', 3), Number: 1}, I(1, 'y', 3), "ayxb"},
		{api.Act{Op: I(1, 'z', 5), Number: 1}, I(3, 'z', 5), "ayxzb"},
		{api.Act{Op: E(1, 3), Number: 2, Clock: api.Clock{3: 1}}, E(1, 3), "axzb"},
		{api.Act{Op: E(2, 3), Number: 3, Clock: api.Clock{3: 2}}, E(4, 3), "axz"},
		{api.Act{Op: R(1, 5), Number: 2, Clock: api.Clock{3: 3, 5: 1}}, R(1, 5), "ayxz"},
		{api.Act{Op: I(0, 'q', 0), Number: 1, Clock: api.Clock{3: 3}}, I(0, 'q', 0), "qayxz"},
	} {
		before := told(l)
		wantOp(t, "the form", take(t, l, x.act), x.form)
		wantView(t, l, x.view)
		got := told(l)
		if !slices.Equal(got.acts, append(before.acts, x.act)) || !slices.Equal(got.forms, append(before.forms, x.form)) {
			t.Errorf("the Log tells %v", got)
		}
		before.clock[x.act.Op.Replica]++
		if got.clock != before.clock {
			t.Errorf("the clock is %v, not %v", got.clock, before.clock)
		}
		if x.act.Op.Kind == api.Insert {
			id := api.ID{Epoch: 2, Replica: x.act.Op.Replica, Number: x.act.Number}
			if i, ok := l.Model().Index(id); i != x.form.At || !ok {
				t.Errorf("%v stands at %d, %v", id, i, ok)
			}
		}
	}
}

// P8.5: S grows in the order of the delivered acts, not by the replicas'
// numbers and not in the Model's order.
func TestFormGoesByTheOrderOfActs(t *testing.T) {
	y := api.Act{Op: I(0, 'y', 1), Number: 1}
	x := api.Act{Op: I(0, 'x', 3), Number: 1, Clock: api.Clock{1: 1}}
	o := api.Act{Op: I(0, 'o', 2), Number: 1}
	l := begun(t, 0, nil)
	take(t, l, y, x)
	wantOp(t, "the form", take(t, l, o), I(2, 'o', 2))
	// The same row, but the acts are beside each other: so x is met last.
	l = begun(t, 0, nil)
	take(t, l, api.Act{Op: I(0, 'x', 1), Number: 1}, api.Act{Op: I(0, 'y', 3), Number: 1})
	wantOp(t, "the form", take(t, l, o), I(1, 'o', 2))
}

// P8.5: an element of the base is of every context, though its ID be that of
// an act that the clock has not.
func TestBaseWithAnIDOfAnAct(t *testing.T) {
	for _, more := range []int{0, 400} {
		base := []api.Element{{ID: api.ID{Replica: 1, Number: 1}, Char: 'z'}}
		for i := range more {
			base = append(base, api.Element{ID: api.ID{Epoch: 9, Number: i}, Char: '.'})
		}
		l := begun(t, 0, base)
		issue(t, l, E(0, 1))
		issue(t, l, I(0, 'x', 1))
		if n := l.Context(api.Clock{}); n != 1+more {
			t.Errorf("the context has %d elements, not %d", n, 1+more)
		}
		wantOp(t, "the form", take(t, l, api.Act{Op: E(0, 0), Number: 1}), E(1, 0))
		wantOp(t, "the form", take(t, l, api.Act{Op: I(0, 'a', 2), Number: 1}), I(1, 'a', 2))
		wantOp(t, "the form", take(t, l, api.Act{Op: I(1, 'b', 3), Number: 1}), I(3, 'b', 3))
	}
}

// P8.6
func TestSplitAndContext(t *testing.T) {
	l := begun(t, 0, old("ab"))
	for i, op := range []api.Op{I(0, 'x', 1), E(0, 1), I(0, 'y', 2), I(0, 'z', 1), R(0, 7), I(0, 'q', 7)} {
		issue(t, l, op)
		if n := l.Context(l.Clock()); n != l.Model().Len() {
			t.Errorf("behind act %d the context of the clock has %d elements", i, n)
		}
	}
	for _, x := range []struct {
		c            api.Clock
		past, beside []int
		context      int
	}{
		{api.Clock{}, nil, []int{0, 1, 2, 3, 4, 5}, 2},
		{api.Clock{1: 1}, []int{0}, []int{1, 2, 3, 4, 5}, 3},
		{api.Clock{1: 2}, []int{0, 1}, []int{2, 3, 4, 5}, 3},
		{api.Clock{1: 3}, []int{0, 1, 3}, []int{2, 4, 5}, 4},
		{api.Clock{2: 1, 7: 1}, []int{2, 4}, []int{0, 1, 3, 5}, 3},
		{api.Clock{7: 2}, []int{4, 5}, []int{0, 1, 2, 3}, 3},
		{api.Clock{5, 3, 1, 0, 9, 0, 0, 2}, []int{0, 1, 2, 3, 4, 5}, nil, 6},
		{api.Clock{most, most, most, most, most, most, most, most}, []int{0, 1, 2, 3, 4, 5}, nil, 6},
		{api.Clock{least, least, 0, -1, -1, -1, -1, least}, nil, []int{0, 1, 2, 3, 4, 5}, 2},
		{api.Clock{-1, most, least}, []int{0, 1, 3}, []int{2, 4, 5}, 4},
	} {
		before := told(l)
		past, beside := l.Split(x.c)
		wantInts(t, "past", past, x.past)
		wantInts(t, "beside", beside, x.beside)
		if n := l.Context(x.c); n != x.context {
			t.Errorf("Context(%v) is %d, not %d", x.c, n, x.context)
		}
		wantTold(t, l, before)
	}
}

// P8.7
func TestNext(t *testing.T) {
	base := old("abcde")
	base[3].Hides = 2
	base[4].Hides = -2
	l := begun(t, brink, base)
	issue(t, l, E(1, 0))
	issue(t, l, I(5, 'f', 3))
	issue(t, l, I(6, 'g', 3))
	issue(t, l, E(6, 0))
	take(t, l, api.Act{Op: E(1, 5), Number: 1})
	m := l.Model()
	view := m.View()
	if gone := l.Next(); gone != 3 {
		t.Errorf("%d elements went, not 3", gone)
	}
	left := []api.Element{base[0], base[2], base[4], {ID: api.ID{Epoch: brink, Replica: 3, Number: 1}, Char: 'f'}}
	wantTold(t, l, state{epoch: brink + 1, elements: left})
	wantView(t, l, view)
	if l.Model() != m {
		t.Error("the Model is another object")
	}
	past, beside := l.Split(api.Clock{9, 9, 9, 9, 9, 9, 9, 9})
	if l.Len() != 0 || len(past)+len(beside) != 0 || l.Context(api.Clock{}) != 4 {
		t.Errorf("Len %d, Split %v %v, Context %d", l.Len(), past, beside, l.Context(api.Clock{}))
	}
	_, err := l.Act(0)
	wantRefusal(t, err, "Act", 0, api.ErrRange)
	_, err = l.Form(0)
	wantRefusal(t, err, "Form", 0, api.ErrRange)

	// Numbers begin anew, and what was laid in is of the base.
	act := issue(t, l, I(4, 'h', 3))
	if act != (api.Act{Op: I(4, 'h', 3), Number: 1}) {
		t.Errorf("the act is %v", act)
	}
	wantOp(t, "the form", take(t, l, api.Act{Op: E(3, 0), Number: 1}), E(3, 0))
	wantOp(t, "the form", take(t, l, api.Act{Op: I(4, 'i', 5), Number: 1}), I(5, 'i', 5))
	refuseAct(t, l, api.Act{Op: E(4, 1), Number: 1}, api.ErrRange)
	if i, ok := l.Model().Index(api.ID{Epoch: brink + 1, Replica: 3, Number: 1}); i != 4 || !ok {
		t.Errorf("the new element stands at %d, %v", i, ok)
	}
	if l.Next() != 1 || l.Next() != 0 || l.Epoch() != brink+3 {
		t.Errorf("the epoch is %d", l.Epoch())
	}
	wantView(t, l, "acehi")
}

func TestNextOfNothing(t *testing.T) {
	l := begun(t, 0, nil)
	if l.Next() != 0 {
		t.Error("something went")
	}
	wantTold(t, l, state{epoch: 1})
}

// P8.7: what Acts told ahead of Next stays as it was.
func TestNextLeavesWhatWasTold(t *testing.T) {
	l := begun(t, 0, nil)
	issue(t, l, I(0, 'a', 0))
	acts := l.Acts()
	l.Next()
	issue(t, l, I(0, 'b', 1))
	if acts[0] != (api.Act{Op: I(0, 'a', 0), Number: 1}) {
		t.Errorf("it has become %v", acts)
	}
}

// R4: Logs that were made apart know nothing of each other.
func TestLogsAreApart(t *testing.T) {
	base := old("ab")
	one, other := begun(t, 0, base), begun(t, 0, base)
	before := told(other)
	issue(t, one, I(0, 'x', 0))
	issue(t, one, E(1, 0))
	one.Next()
	wantTold(t, other, before)
}

// R1: no call panics, though somebody has changed the Model (P8.1).
func TestChangedModel(t *testing.T) {
	for _, change := range []func(*history.Log){
		func(l *history.Log) { l.Model().Purge() },
		func(l *history.Log) {
			for i := range l.Model().Len() {
				l.Model().Add(i, 1)
			}
			l.Model().Purge()
		},
		func(l *history.Log) {
			for _, id := range []api.ID{{}, {Replica: 3, Number: 1}, {Replica: 1, Number: 9}, {Replica: -1, Number: 1}, {Replica: 99, Number: 1}, {Replica: 1, Number: most}, {Number: least}} {
				l.Model().Insert(0, api.Element{ID: id, Char: '!'})
				l.Model().Insert(l.Model().Len(), api.Element{ID: api.ID{Epoch: 5, Number: id.Number}, Char: '!'})
			}
		},
		func(l *history.Log) { l.Model().Remove(0, l.Model().Len()/2) },
		func(l *history.Log) {
			for i := range l.Model().Len() {
				l.Model().Set(i, api.Element{ID: api.ID{Replica: 1, Number: 1 + i%2}, Char: '!'})
			}
		},
	} {
		for _, more := range []int{0, 900} {
			base := old("abc")
			for i := range more {
				base = append(base, api.Element{ID: api.ID{Epoch: 9, Number: i}, Char: '.'})
			}
			l := begun(t, 0, base)
			for i := range 4 {
				issue(t, l, I(i, 'x', i%2))
				issue(t, l, E(i/2, i%2))
			}
			change(l)
			for known := range 4 {
				c := api.Clock{known, known}
				l.Context(c)
				l.Split(c)
				for at := -1; at < 12; at++ {
					for _, op := range []api.Op{I(at, 'c', 2), E(at, 2), R(at, 2)} {
						l.Place(api.Act{Op: op, Number: 1, Clock: c})
						l.Take(api.Act{Op: op, Number: 1 + l.Clock()[2], Clock: api.Clock{known, known, l.Clock()[2]}})
						l.Issue(op)
					}
				}
			}
			l.Acts()
			l.Form(0)
			l.Next()
			l.Take(api.Act{Op: I(0, 'c', 2), Number: 1})
		}
	}
}
