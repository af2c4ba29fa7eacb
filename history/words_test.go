package history_test

import (
	"errors"
	"math/rand"
	"slices"
	"testing"

	"barrow/api"
	"barrow/history"
)

// A plainLog is what the chapter's words say, done without haste.
type plainLog struct {
	epoch     int
	base, row []api.Element
	acts      []api.Act
	forms     []api.Op
}

func newPlain(epoch int, base []api.Element) *plainLog {
	return &plainLog{epoch: epoch, base: slices.Clone(base), row: slices.Clone(base)}
}

func (w *plainLog) clock() (c api.Clock) {
	for _, act := range w.acts {
		c[act.Op.Replica]++
	}
	return c
}

func (w *plainLog) id(act api.Act) api.ID {
	return api.ID{Epoch: w.epoch, Replica: act.Op.Replica, Number: act.Number}
}

// context is the IDs of its elements.
func (w *plainLog) context(c api.Clock) map[api.ID]bool {
	set := map[api.ID]bool{}
	for _, e := range w.base {
		set[e.ID] = true
	}
	for _, act := range w.acts {
		if act.Op.Kind == 1 && act.Number <= c[act.Op.Replica] {
			set[w.id(act)] = true
		}
	}
	return set
}

// wantT is P7.2.
func wantT(a, b api.Op) api.Op {
	greater := false
	if b.Kind == 1 && a.Kind == 1 {
		greater = b.At < a.At || b.At == a.At && !(a.Replica < b.Replica)
	} else if b.Kind == 1 {
		greater = b.At <= a.At
	}
	if greater {
		a.At++
	}
	return a
}

// form is P8.5.
func (w *plainLog) form(act api.Act) api.Op {
	set := w.context(act.Clock)
	op := act.Op
	for _, other := range w.acts {
		if other.Op.Kind != 1 || other.Number <= act.Clock[other.Op.Replica] {
			continue
		}
		q := 0
		for _, e := range w.row {
			if e.ID == w.id(other) {
				break
			}
			if set[e.ID] {
				q++
			}
		}
		op = wantT(op, api.Op{Kind: 1, At: q, Replica: other.Op.Replica})
		set[w.id(other)] = true
	}
	return op
}

func isRight(op api.Op) bool {
	char := op.Char >= 0 && op.Char <= 0x10FFFF && (op.Char < 0xD800 || op.Char > 0xDFFF)
	return op.Replica >= 0 && op.Replica <= 7 &&
		(op.Kind == 1 && char || (op.Kind == 2 || op.Kind == 3) && op.Char == 0)
}

func isValid(op api.Op, n int) bool {
	return isRight(op) && op.At >= 0 && (op.At < n || op.At == n && op.Kind == 1)
}

// flaw is P8.4, but for what is refused of the form.
func (w *plainLog) flaw(act api.Act) error {
	have := w.clock()
	if !isRight(act.Op) || act.Number < 1 || slices.Min(act.Clock[:]) < 0 || act.Clock[act.Op.Replica] != act.Number-1 {
		return api.ErrForm
	}
	if act.Number <= have[act.Op.Replica] {
		return api.ErrTwice
	}
	for r, n := range act.Clock {
		if n > have[r] {
			return api.ErrOrder
		}
	}
	if !isValid(act.Op, len(w.context(act.Clock))) {
		return api.ErrRange
	}
	return nil
}

// deliver applies a form, if it can be.
func (w *plainLog) deliver(act api.Act, form api.Op) error {
	there := func(e api.Element) bool { return e.ID == w.id(act) }
	row := slices.Clone(w.row)
	switch {
	case !isRight(form):
		return api.ErrArg
	case !isValid(form, len(row)):
		return api.ErrRange
	case form.Kind == 1 && slices.ContainsFunc(row, there):
		return api.ErrTwice
	case form.Kind == 1:
		row = slices.Insert(row, form.At, api.Element{ID: w.id(act), Char: form.Char})
	case form.Kind == 2:
		row[form.At].Hides++
	case form.Kind == 3:
		row[form.At].Hides--
	}
	w.row, w.acts, w.forms = row, append(w.acts, act), append(w.forms, form)
	return nil
}

func (w *plainLog) issue(op api.Op) (api.Act, error) {
	act := api.Act{Op: op, Clock: w.clock()}
	if isRight(op) {
		act.Number = act.Clock[op.Replica] + 1
	}
	if why := w.deliver(act, op); why != nil {
		return api.Act{}, why
	}
	return act, nil
}

func (w *plainLog) next() int {
	live := slices.DeleteFunc(slices.Clone(w.row), func(e api.Element) bool { return e.Hides > 0 })
	gone := len(w.row) - len(live)
	*w = *newPlain(w.epoch+1, live)
	return gone
}

func (w *plainLog) split(c api.Clock) (past, beside []int) {
	for i, act := range w.acts {
		if act.Number <= c[act.Op.Replica] {
			past = append(past, i)
		} else {
			beside = append(beside, i)
		}
	}
	return past, beside
}

// Dice are bytes that choose; behind the last one all are 0.
type dice struct{ raw []byte }

func (d *dice) roll(n int) int {
	if len(d.raw) == 0 || n <= 1 {
		return 0
	}
	b := int(d.raw[0])
	d.raw = d.raw[1:]
	return b % n
}

// anyClock is one of which have covers, as a rule.
func (d *dice) anyClock(have api.Clock, w *plainLog) api.Clock {
	c := have
	switch d.roll(8) {
	case 0:
		return api.Clock{}
	case 1, 2, 3: // the issuer has learned nothing since the last act
		if len(w.acts) > 0 {
			c = w.acts[len(w.acts)-1].Clock
		}
	case 4, 5: // few are missing
		for r := range c {
			c[r] = max(0, c[r]-d.roll(3))
		}
	case 6:
		for r := range c {
			c[r] = d.roll(c[r] + 1)
		}
	case 7:
		c[d.roll(8)] += d.roll(3) - 1
	}
	return c
}

// anyOp is one for a row of n elements; now and then it is not valid there.
func (d *dice) anyOp(n int, w *plainLog) api.Op {
	r := []int{0, 2, 5, 7}[d.roll(4)]
	if k := len(w.acts); k > 0 && d.roll(2) == 1 { // the text goes on
		last := w.acts[k-1].Op
		return api.Op{Kind: 1, At: last.At + 1, Char: 'a' + rune(k%26), Replica: last.Replica}
	}
	at := d.roll(n + 1)
	switch d.roll(16) {
	case 0, 1, 2:
		return E(at, r)
	case 3, 4:
		return R(at, r)
	case 5:
		return I(n+d.roll(3)-1, '+', r)
	case 6:
		return api.Op{Kind: d.roll(5), At: at, Char: rune(d.roll(2)), Replica: d.roll(10) - 1}
	}
	return I(at, 'A'+rune(len(w.acts)%26), r)
}

func (d *dice) anyAct(w *plainLog) api.Act {
	have := w.clock()
	act := api.Act{Clock: d.anyClock(have, w)}
	act.Op = d.anyOp(len(w.context(act.Clock)), w)
	if r := act.Op.Replica; r >= 0 && r < 8 {
		act.Clock[r] = have[r]
		act.Number = have[r] + 1
	}
	switch d.roll(24) {
	case 1:
		act.Number += d.roll(4) - 2
	case 2: // one that is delivered
		if len(w.acts) > 0 {
			act = w.acts[d.roll(len(w.acts))]
		}
	}
	return act
}

// anyBase has IDs of acts that are still to come, too.
func (d *dice) anyBase() []api.Element {
	base := old("abcde"[:d.roll(6)])
	for range d.roll(3) {
		base = append(base, api.Element{ID: api.ID{Replica: 2, Number: 1 + len(base)}, Char: 'z'})
	}
	if d.roll(3) == 0 {
		for i := range 250 + d.roll(200) {
			base = append(base, api.Element{ID: api.ID{Epoch: 99, Number: i}, Char: '.', Hides: i % 2})
		}
	}
	return base
}

func wantReason(t testing.TB, what string, err, why error) {
	t.Helper()
	if (err == nil) != (why == nil) || !errors.Is(err, why) {
		t.Fatalf("%s answers %v, not %v", what, err, why)
	}
}

func wantPlain(t testing.TB, l *history.Log, w *plainLog) {
	t.Helper()
	wantTold(t, l, state{epoch: w.epoch, clock: w.clock(), acts: w.acts, forms: w.forms, elements: w.row})
}

// wantTaken is P8.4 and P8.5 of any act.
func wantTaken(t testing.TB, l *history.Log, w *plainLog, act api.Act) {
	t.Helper()
	why := w.flaw(act)
	var form api.Op
	if why == nil {
		form = w.form(act)
	}
	got, err := l.Place(act)
	wantReason(t, "Place", err, why)
	if got != form {
		t.Fatalf("Place of %v is %v, not %v", act, got, form)
	}
	if why == nil {
		why = w.deliver(act, form)
	}
	if why != nil {
		form = api.Op{}
	}
	got, err = l.Take(act)
	wantReason(t, "Take", err, why)
	if got != form {
		t.Fatalf("Take of %v is %v, not %v", act, got, form)
	}
}

// wantWords does any steps with a Log and by the words, honest ones or not.
func wantWords(t testing.TB, d *dice) {
	t.Helper()
	base := d.anyBase()
	l, w := begun(t, 0, base), newPlain(0, base)
	for len(d.raw) > 0 {
		switch k := d.roll(40); {
		case k < 8:
			op := d.anyOp(len(w.row), w)
			want, why := w.issue(op)
			got, err := l.Issue(op)
			wantReason(t, "Issue", err, why)
			if got != want {
				t.Fatalf("Issue of %v is %v, not %v", op, got, want)
			}
		case k == 8:
			if got, want := l.Next(), w.next(); got != want {
				t.Fatalf("Next is %d, not %d", got, want)
			}
		case k < 13:
			c := d.anyClock(w.clock(), w)
			past, beside := l.Split(c)
			wantPast, wantBeside := w.split(c)
			wantInts(t, "past", past, wantPast)
			wantInts(t, "beside", beside, wantBeside)
			if got, want := l.Context(c), len(w.context(c)); got != want {
				t.Fatalf("Context of %v is %d, not %d", c, got, want)
			}
		default:
			wantTaken(t, l, w, d.anyAct(w))
		}
		wantPlain(t, l, w)
	}
}

// P8.3 to P8.7, whatever is taken.
func TestWords(t *testing.T) {
	for seed := range 600 {
		raw := make([]byte, 40+seed)
		rand.New(rand.NewSource(int64(seed))).Read(raw)
		wantWords(t, &dice{raw})
	}
}

func FuzzWords(f *testing.F) {
	f.Add([]byte{})
	f.Add([]byte("co-editing of plain text, without a central order"))
	f.Fuzz(func(t *testing.T, raw []byte) { wantWords(t, &dice{raw[:min(len(raw), 400)]}) })
}
