package replica_test

import (
	"errors"
	"math"
	"reflect"
	"slices"
	"testing"

	"barrow/api"
	"barrow/fault"
	"barrow/packet"
	"barrow/replica"
)

const (
	most  = math.MaxInt
	least = math.MinInt
)

// two is the chapter's: two replicas, a Model of 8.
var two = config(2, 8, 4, 4)

func config(replicas, model, batch, buffer int) api.Config {
	return api.Config{Replicas: replicas, Model: model, Batch: batch, Buffer: buffer}
}

func made(t testing.TB, c api.Config, self int) *replica.Replica {
	t.Helper()
	r, err := replica.New(c, self)
	if r == nil || err != nil {
		t.Fatalf("New is %v, %v", r, err)
	}
	return r
}

// all are the replicas of a session.
func all(t testing.TB, c api.Config) []*replica.Replica {
	t.Helper()
	var l []*replica.Replica
	for self := range c.Replicas {
		l = append(l, made(t, c, self))
	}
	return l
}

func pair(t testing.TB, c api.Config) (a, b *replica.Replica) {
	t.Helper()
	l := all(t, c)
	return l[0], l[1]
}

// from is a replica of parts that are not refused.
func from(t testing.TB, p api.Parts) *replica.Replica {
	t.Helper()
	r, err := replica.From(p)
	if r == nil || err != nil {
		t.Fatalf("From is %v, %v", r, err)
	}
	return r
}

func ok(t testing.TB, errs ...error) {
	t.Helper()
	for _, err := range errs {
		if err != nil {
			t.Fatal(err)
		}
	}
}

func link(layer, call string, at int) api.Link { return api.Link{Layer: layer, Call: call, At: at} }

// here is a link of this layer.
func here(call string, at int) api.Link { return link("replica", call, at) }

func wantRefusal(t testing.TB, err, why error, chain ...api.Link) {
	t.Helper()
	if !errors.Is(err, why) || fault.Named(fault.Code(err)) != why || !slices.Equal(fault.Chain(err), chain) {
		t.Errorf("%v %v, want %v %v", err, fault.Chain(err), why, chain)
	}
}

// told is all that a replica tells.
type told struct {
	parts                             api.Parts
	config                            api.Config
	self, epoch, credit               int
	clock                             api.Clock
	frozen                            bool
	rounds                            api.Rounds
	view                              string
	len, live, cursor, undone, redone int
	elements                          []api.Element
	acts, held                        []api.Act
}

func tell(r *replica.Replica) told {
	x := told{
		parts: r.Parts(), config: r.Config(), self: r.Self(), epoch: r.Epoch(), credit: r.Credit(),
		clock: r.Clock(), frozen: r.Frozen(), rounds: r.Rounds(), view: r.View(),
		len: r.Len(), live: r.Live(), cursor: r.Cursor(),
		elements: r.Elements(), acts: r.Acts(), held: r.Held(),
	}
	x.undone, x.redone = r.Depth()
	return x
}

func sameTold(a, b told) bool {
	return sameParts(a.parts, b.parts) && slices.Equal(a.elements, b.elements) && slices.Equal(a.acts, b.acts) && slices.Equal(a.held, b.held) &&
		a.config == b.config && a.self == b.self && a.epoch == b.epoch && a.credit == b.credit && a.clock == b.clock && a.frozen == b.frozen &&
		a.rounds == b.rounds && a.view == b.view && a.len == b.len && a.live == b.live && a.cursor == b.cursor && a.undone == b.undone && a.redone == b.redone
}

// sameParts: nil and empty lists are one.
func sameParts(a, b api.Parts) bool {
	sameEdits := func(x, y [][]api.Change) bool { return slices.EqualFunc(x, y, slices.Equal) }
	return a.Config == b.Config && a.Self == b.Self && a.Epoch == b.Epoch && slices.Equal(a.Base, b.Base) &&
		slices.Equal(a.Acts, b.Acts) && slices.Equal(a.Held, b.Held) && a.Rounds == b.Rounds &&
		sameEdits(a.Done, b.Done) && sameEdits(a.Undone, b.Undone) && a.Cursor == b.Cursor &&
		slices.EqualFunc(a.Out, b.Out, func(x, y api.Parcel) bool {
			return x.Serial == y.Serial && x.From == y.From && x.To == y.To && slices.Equal(x.Bytes, y.Bytes)
		})
}

// wantNothing does calls, each of which is to change nothing that can be told.
func wantNothing(t testing.TB, r *replica.Replica, call func()) {
	t.Helper()
	before := tell(r)
	call()
	if after := tell(r); !sameTold(before, after) {
		t.Errorf("%+v\nhas become\n%+v", before, after)
	}
}

func wantView(t testing.TB, r *replica.Replica, want string) {
	t.Helper()
	if r.View() != want || r.Live() != len([]rune(want)) {
		t.Errorf("the view is %q (%d), want %q", r.View(), r.Live(), want)
	}
}

func wantCursor(t testing.TB, r *replica.Replica, want int) {
	t.Helper()
	if r.Cursor() != want {
		t.Errorf("the cursor is at %d, want %d", r.Cursor(), want)
	}
}

func wantCredit(t testing.TB, r *replica.Replica, want int) {
	t.Helper()
	if r.Credit() != want {
		t.Errorf("the credit is %d, want %d", r.Credit(), want)
	}
}

func wantDepth(t testing.TB, r *replica.Replica, undo, redo int) {
	t.Helper()
	if u, d := r.Depth(); u != undo || d != redo {
		t.Errorf("Depth is %d %d, want %d %d", u, d, undo, redo)
	}
}

// raw is a message's bytes.
func raw(t testing.TB, m api.Message) []byte {
	t.Helper()
	b, err := packet.Bytes(m)
	ok(t, err)
	return b
}

// messages are what is to go out, and to whom; it is not left to go out.
func messages(t testing.TB, r *replica.Replica) (l []api.Message, to []int) {
	t.Helper()
	for _, p := range r.Out() {
		if p.Serial != 0 || p.From != r.Self() {
			t.Errorf("a parcel is %v", p)
		}
		m, err := packet.Read(p.Bytes)
		ok(t, err)
		if m.From != r.Self() {
			t.Errorf("a message is %v", m)
		}
		l, to = append(l, m), append(to, p.To)
	}
	return l, to
}

// wantOut: just these go out, to those.
func wantOut(t testing.TB, r *replica.Replica, want []api.Message, to ...int) {
	t.Helper()
	l, whom := messages(t, r)
	if len(l) != len(want) || !slices.Equal(whom, to) {
		t.Errorf("%v goes out to %v, want %v to %v", l, whom, want, to)
		return
	}
	for i := range l {
		if !reflect.DeepEqual(l[i], want[i]) {
			t.Errorf("there goes out\n%v, want\n%v", l[i], want[i])
		}
	}
}

// carry lets all that goes out arrive, till nothing does.
func carry(t testing.TB, l ...*replica.Replica) {
	t.Helper()
	for more := true; more; {
		more = false
		for _, r := range l {
			for _, p := range r.Out() {
				more = true
				ok(t, l[p.To].Take(p.Bytes))
			}
		}
	}
}

// lose forgets what is to go out.
func lose(l ...*replica.Replica) {
	for _, r := range l {
		r.Out()
	}
}

// Acts as they were issued, with the clock ahead of them.
func act(kind, at int, char rune, replica, number int, clock ...int) api.Act {
	x := api.Act{Op: api.Op{Kind: kind, At: at, Char: char, Replica: replica}, Number: number}
	copy(x.Clock[:], clock)
	return x
}

func id(epoch, replica, number int) api.ID {
	return api.ID{Epoch: epoch, Replica: replica, Number: number}
}

func change(kind int, id api.ID) api.Change { return api.Change{Kind: kind, ID: id} }

// wantDone: the stack's edits that can be undone, the oldest first.
func wantDone(t testing.TB, r *replica.Replica, want ...[]api.Change) {
	t.Helper()
	if done := r.Parts().Done; !slices.EqualFunc(done, want, slices.Equal) {
		t.Errorf("what can be undone is %v, want %v", done, want)
	}
}

// freeze lets a replica propose: it has voted Yes then, and nobody else has.
func freeze(t testing.TB, r *replica.Replica) {
	t.Helper()
	ok(t, r.Propose())
	if !r.Frozen() {
		t.Fatal("it isn't frozen")
	}
}

// P16.1
func TestNewAtTheEdges(t *testing.T) {
	for _, c := range []api.Config{
		config(1, 0, 1, 0), config(8, api.MaxModel, api.MaxBatch, api.MaxBuffer), config(3, 7, 2, 5),
	} {
		for self := range c.Replicas {
			r := made(t, c, self)
			want := told{config: c, self: self, credit: c.Model / c.Replicas}
			want.parts = api.Parts{Config: c, Self: self, Cursor: api.Anchor{Front: true}}
			if x := tell(r); !sameTold(x, want) || len(r.Out()) != 0 {
				t.Errorf("New(%v, %d) is %+v", c, self, x)
			}
		}
	}
}

func TestNewRefused(t *testing.T) {
	good := config(2, 8, 4, 4)
	wrong := []api.Config{{}}
	for _, n := range []int{least, -1, 0, 9, most} {
		c := good
		c.Replicas = n
		wrong = append(wrong, c)
	}
	for _, n := range []int{least, -1, api.MaxModel + 1, most} {
		c := good
		c.Model = n
		wrong = append(wrong, c)
	}
	for _, n := range []int{least, -1, 0, api.MaxBatch + 1, most} {
		c := good
		c.Batch = n
		wrong = append(wrong, c)
	}
	for _, n := range []int{least, -1, api.MaxBuffer + 1, most} {
		c := good
		c.Buffer = n
		wrong = append(wrong, c)
	}
	for _, c := range wrong {
		r, err := replica.New(c, 0)
		wantRefusal(t, err, api.ErrArg, here("New", 0))
		if r != nil {
			t.Errorf("New(%v, 0) is %v beside %v", c, r, err)
		}
	}
	for _, self := range []int{least, -1, 2, 8, most} {
		r, err := replica.New(good, self)
		wantRefusal(t, err, api.ErrArg, here("New", max(self, -1)))
		if r != nil {
			t.Errorf("New(.., %d) is %v beside %v", self, r, err)
		}
	}
}

// P16.1: a Model that can't be shared evenly.
func TestCreditIsRoundedDown(t *testing.T) {
	for model := range 20 {
		for replicas := 1; replicas <= api.MaxReplicas; replicas++ {
			wantCredit(t, made(t, config(replicas, model, 1, 0), 0), model/replicas)
		}
	}
}

// P16.5
func TestMoveAndCursor(t *testing.T) {
	r := made(t, config(1, 9, 1, 0), 0)
	wantCursor(t, r, 0)
	ok(t, r.Insert(0, "héllo"), r.Erase(1, 1)) // "hllo"
	for p := range 5 {
		ok(t, r.Move(p))
		wantCursor(t, r, p)
	}
	for p, want := range []api.Anchor{{Front: true}, {ID: id(0, 0, 1)}, {ID: id(0, 0, 3)}} {
		ok(t, r.Move(p))
		if c := r.Parts().Cursor; c != want {
			t.Errorf("Move(%d) makes it %v, want %v", p, c, want)
		}
	}
	wantNothing(t, r, func() {
		for _, p := range []int{least, -1, 5, 6, most} {
			wantRefusal(t, r.Move(p), api.ErrRange, here("Move", max(p, -1)))
		}
	})
}

// P16.5: who is frozen may look around; nothing goes out by that.
func TestMoveOfTheFrozen(t *testing.T) {
	a, b := pair(t, two)
	ok(t, a.Insert(0, "abc"))
	carry(t, a, b)
	freeze(t, a)
	lose(a)
	ok(t, a.Move(1))
	wantCursor(t, a, 1)
	wantOut(t, a, nil)
}

// W4: a cursor stays behind its character, whatever happens elsewhere.
func TestCursorStaysBehindItsCharacter(t *testing.T) {
	a, b := pair(t, config(2, 40, 4, 4))
	ok(t, a.Insert(0, "abcd"), a.Move(2))
	carry(t, a, b)
	for _, x := range []struct {
		edit func() error
		view string
		want int
	}{
		{func() error { return b.Insert(0, "xx") }, "xxabcd", 4},
		{func() error { return b.Insert(4, "y") }, "xxabycd", 4}, // at the gap itself
		{func() error { return b.Erase(5, 1) }, "xxabyd", 4},
		{func() error { return b.Erase(0, 1) }, "xabyd", 3},
		{func() error { return b.Erase(2, 1) }, "xayd", 2},     // its own character
		{func() error { return b.Insert(2, "z") }, "xazyd", 3}, // it goes ahead of erased ones
		{func() error { return b.Erase(1, 1) }, "xzyd", 2},
		{func() error { return b.Undo() }, "xazyd", 3},
	} {
		ok(t, x.edit())
		carry(t, a, b)
		wantView(t, a, x.view)
		wantCursor(t, a, x.want)
	}
}

// P16.6
func TestEditsGoOutToEachOtherOne(t *testing.T) {
	for self := range 4 {
		r := made(t, config(4, 40, 4, 4), self)
		var others []int
		for to := range 4 {
			if to != self {
				others = append(others, to)
			}
		}
		ok(t, r.Insert(0, "ab"))
		var ahead api.Clock
		ahead[self] = 1
		one := act(api.Insert, 0, 'a', self, 1)
		other := act(api.Insert, 1, 'b', self, 2, ahead[:]...)
		m := api.Message{Kind: api.Acts, From: self, Acts: []api.Act{one, other}}
		wantOut(t, r, []api.Message{m, m, m}, others...)
		wantOut(t, r, nil)
	}
}

// P16.6: what has gone out ahead of Out stands in its order.
func TestOutTellsAllInOrder(t *testing.T) {
	r := made(t, config(3, 30, 4, 4), 1)
	ok(t, r.Insert(0, "a"), r.Sync(2), r.Erase(0, 1), r.Sync(0), r.Undo(), r.Propose())
	l, to := messages(t, r)
	var kinds []int
	for _, m := range l {
		kinds = append(kinds, m.Kind)
	}
	if !slices.Equal(kinds, []int{api.Acts, api.Acts, api.Digest, api.Acts, api.Acts, api.Digest, api.Acts, api.Acts, api.State, api.State}) ||
		!slices.Equal(to, []int{0, 2, 2, 0, 2, 0, 0, 2, 0, 2}) {
		t.Errorf("there go %v to %v", kinds, to)
	}
	wantOut(t, r, nil)
}

// P16.6: what issues nothing sends nothing.
func TestNothingGoesOut(t *testing.T) {
	r := made(t, two, 0)
	ok(t, r.Insert(0, "a"))
	lose(r)
	ok(t, r.Insert(0, ""), r.Erase(1, 0), r.Rewrite("a"), r.Move(0))
	r.Insert(5, "a")
	r.Erase(0, 5)
	r.Redo()
	r.Sync(0)
	wantOut(t, r, nil)
	one := made(t, config(1, 9, 1, 0), 0)
	ok(t, one.Insert(0, "abc"), one.Erase(0, 1), one.Undo(), one.Redo(), one.Rewrite("xy"), one.Propose())
	wantOut(t, one, nil)
}

// P16.6
func TestSync(t *testing.T) {
	l := all(t, config(3, 30, 4, 4))
	ok(t, l[1].Insert(0, "ab"), l[0].Insert(0, "x"))
	carry(t, l...)
	ok(t, l[1].Sync(0), l[1].Sync(2))
	m := api.Message{Kind: api.Digest, From: 1, Clock: api.Clock{1, 2}}
	wantOut(t, l[1], []api.Message{m, m}, 0, 2)
	wantNothing(t, l[1], func() {
		for _, to := range []int{least, -1, 1, 3, 7, 8, most} {
			wantRefusal(t, l[1].Sync(to), api.ErrArg, here("Sync", max(to, -1)))
		}
	})
	one := made(t, config(1, 9, 1, 0), 0)
	for to := range 8 {
		wantRefusal(t, one.Sync(to), api.ErrArg, here("Sync", to))
	}
	ok(t, l[1].Propose()) // frozen: it syncs nevertheless
	lose(l[1])
	ok(t, l[1].Sync(0))
	wantOut(t, l[1], []api.Message{m}, 0)
}

// P16.11: what the calls tell is what the parts are.
func TestToldAsItIs(t *testing.T) {
	l := all(t, config(3, 30, 2, 4))
	ok(t, l[0].Insert(0, "abc"), l[0].Erase(1, 1), l[0].Undo(), l[0].Move(1))
	early := made(t, config(3, 30, 2, 4), 2)
	ok(t, early.Insert(0, "x"))
	lose(early)
	ok(t, early.Insert(1, "y"))
	ok(t, l[0].Take(early.Out()[0].Bytes), l[0].Propose())
	x := tell(l[0])
	want := told{
		config: config(3, 30, 2, 4), self: 0, credit: 7, clock: api.Clock{5}, frozen: true, view: "abc",
		len: 3, live: 3, cursor: 1, undone: 1, redone: 1,
		elements: []api.Element{{ID: id(0, 0, 1), Char: 'a'}, {ID: id(0, 0, 2), Char: 'b'}, {ID: id(0, 0, 3), Char: 'c'}},
		acts: []api.Act{
			act(api.Insert, 0, 'a', 0, 1), act(api.Insert, 1, 'b', 0, 2, 1), act(api.Insert, 2, 'c', 0, 3, 2),
			act(api.Erase, 1, 0, 0, 4, 3), act(api.Restore, 1, 0, 0, 5, 4),
		},
		held: []api.Act{act(api.Insert, 1, 'y', 2, 2, 0, 0, 1)},
	}
	want.rounds[0] = api.Round{Number: 1, Cut: api.Clock{5}, Votes: [8]int{api.Yes}}
	want.parts = api.Parts{
		Config: want.config, Acts: want.acts, Held: want.held, Rounds: want.rounds,
		Done:   [][]api.Change{{change(api.Insert, id(0, 0, 1)), change(api.Insert, id(0, 0, 2)), change(api.Insert, id(0, 0, 3))}},
		Undone: [][]api.Change{{change(api.Erase, id(0, 0, 2))}},
		Cursor: api.Anchor{ID: id(0, 0, 1)}, Out: x.parts.Out,
	}
	if !sameTold(x, want) || len(x.parts.Out) != 8 {
		t.Errorf("it tells\n%+v, want\n%+v", x, want)
	}
}
