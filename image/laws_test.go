package image_test

import (
	"bytes"
	"math/rand"
	"slices"
	"testing"

	"barrow/api"
	"barrow/fault"
	"barrow/image"
	"barrow/packet"
	"barrow/replica"
)

// message is a message's bytes.
func message(t testing.TB, m api.Message) []byte {
	t.Helper()
	b, err := packet.Bytes(m)
	ok(t, err)
	return b
}

// wantAsRead: what is made of b is what the words say, and what follows holds.
func wantAsRead(t testing.TB, b []byte) {
	t.Helper()
	plain := &plainReading{raw: b}
	want := plain.parts()
	if plain.why != nil {
		wantNoParts(t, b, plain.why, plain.chain...)
		return
	}
	got, err := image.Parts(b)
	if err != nil || !same(got, want) || !bytes.Equal(plainBytes(got), b) {
		t.Fatalf("% x is read as\n%+v, %v, want\n%+v", b, got, err, want)
	}
	known, why := replica.From(want)
	if why != nil {
		wantNoReplica(t, b, fault.Named(fault.Code(why)), fault.Chain(why)...)
		return
	}
	wantForm(t, want, b)
	if r := loaded(t, b); !bytes.Equal(image.Save(r), b) || !sameTold(tell(r), tell(known)) {
		t.Fatalf("% x is loaded as\n%+v, and saved as\n% x", b, tell(r), image.Save(r))
	}
}

// Twins are two rows of replicas to which the same is done. Those of one row
// are saved and loaded again and again; the others never are.
type twins struct {
	t      testing.TB
	below  func(n int) int // a number from 0 to n - 1
	config api.Config
	one    []*replica.Replica
	saved  []*replica.Replica
	way    []api.Parcel // under way
}

func newTwins(t testing.TB, below func(n int) int) *twins {
	c := config(1+below(4), below(50), 1+below(4), below(5))
	return &twins{t: t, below: below, config: c, one: all(t, c), saved: all(t, c)}
}

// do lets both twins do the same, and holds what they answer against each other.
func (x *twins) do(i int, call func(r *replica.Replica) error) {
	x.t.Helper()
	a, b := call(x.one[i]), call(x.saved[i])
	if (a == nil) != (b == nil) || a != nil && a.Error() != b.Error() || !slices.Equal(fault.Chain(a), fault.Chain(b)) {
		x.t.Fatalf("they answer %v and %v", a, b)
	}
	x.check(i)
}

func (x *twins) check(i int) {
	x.t.Helper()
	if a, b := tell(x.one[i]), tell(x.saved[i]); !sameTold(a, b) {
		x.t.Fatalf("they tell\n%+v and\n%+v", a, b)
	}
}

// reload is P17.5.
func (x *twins) reload(i int) {
	x.t.Helper()
	b := image.Save(x.saved[i])
	if !bytes.Equal(b, image.Save(x.one[i])) || !bytes.Equal(b, plainBytes(x.one[i].Parts())) {
		x.t.Fatalf("they are saved as\n% x and\n% x", b, image.Save(x.one[i]))
	}
	x.check(i)
	x.saved[i] = loaded(x.t, b)
	x.check(i)
	if again := image.Save(x.saved[i]); !bytes.Equal(again, b) {
		x.t.Fatalf("% x is saved as\n% x", b, again)
	}
}

func (x *twins) text() string {
	var l []rune
	for range x.below(4) {
		l = append(l, []rune{'a', 'b', 0xE9, 0x4E16, '\n', 0x10FFFF}[x.below(6)])
	}
	return string(l)
}

// send brings what goes out under way; some of it is lost.
func (x *twins) send(i int) {
	x.t.Helper()
	a, b := x.one[i].Out(), x.saved[i].Out()
	if !same(api.Parts{Out: a}, api.Parts{Out: b}) {
		x.t.Fatalf("there go %v and %v", a, b)
	}
	for _, p := range a {
		if x.below(8) > 0 {
			x.way = append(x.way, p)
		}
	}
}

// arrive lets a parcel arrive; sometimes it stays under way, too.
func (x *twins) arrive() {
	x.t.Helper()
	if len(x.way) == 0 {
		return
	}
	k := x.below(len(x.way))
	p := x.way[k]
	if x.below(6) > 0 {
		x.way = slices.Delete(x.way, k, k+1)
	}
	x.do(p.To, func(r *replica.Replica) error { return r.Take(p.Bytes) })
}

func (x *twins) edit(i int) {
	x.t.Helper()
	live := x.one[i].Live()
	p, text := x.below(live+1), x.text()
	n := x.below(min(3, live-p) + 1)
	calls := []func(r *replica.Replica) error{
		func(r *replica.Replica) error { return r.Insert(p, text) },
		func(r *replica.Replica) error { return r.Insert(p, text) },
		func(r *replica.Replica) error { return r.Erase(p, n) },
		func(r *replica.Replica) error { return r.Undo() },
		func(r *replica.Replica) error { return r.Redo() },
		func(r *replica.Replica) error { return r.Rewrite(text) },
		func(r *replica.Replica) error { return r.Move(p) },
	}
	x.do(i, calls[x.below(len(calls))])
}

func (x *twins) step() {
	x.t.Helper()
	i := x.below(x.config.Replicas)
	switch n := x.below(20); {
	case n < 8:
		x.edit(i)
	case n < 9:
		x.do(i, func(r *replica.Replica) error { return r.Propose() })
	case n < 11:
		to := x.below(x.config.Replicas)
		x.do(i, func(r *replica.Replica) error { return r.Sync(to) })
	case n < 18:
		x.arrive()
	}
	if x.below(3) > 0 {
		x.send(i)
	}
	if x.below(3) > 0 {
		x.reload(i)
	}
}

// P17.5, W9
func TestLoadedReplicasGoOn(t *testing.T) {
	for seed := range int64(250) {
		x := newTwins(t, rand.New(rand.NewSource(seed)).Intn)
		for range 120 {
			x.step()
		}
	}
}

func FuzzLoadedReplicasGoOn(f *testing.F) {
	f.Add([]byte{1, 20, 2, 3, 0, 0, 0, 0, 2, 1, 1})
	f.Add([]byte("some steps of a session, as they come"))
	f.Fuzz(func(t *testing.T, raw []byte) {
		x := newTwins(t, func(n int) int {
			if len(raw) == 0 {
				return 0
			}
			k := int(raw[0])
			raw = raw[1:]
			return k % n
		})
		for len(raw) > 0 {
			x.step()
		}
	})
}

// saves are replicas' bytes, of some sessions.
func saves(t testing.TB, sessions int) (l [][]byte) {
	l = append(l, raw(t, fullDigits), raw(t, firstRun), image.Save(rich(t)))
	for seed := range int64(sessions) {
		x := newTwins(t, rand.New(rand.NewSource(seed+1000)).Intn)
		for range 60 {
			x.step()
		}
		for _, r := range x.one {
			l = append(l, image.Save(r))
		}
	}
	return l
}

// P17.6: it is always wire that is short of bytes.
func TestBeginningsAreRefused(t *testing.T) {
	for _, b := range saves(t, 25) {
		for cut := range b {
			plain := &plainReading{raw: b[:cut]}
			plain.parts()
			if plain.why != api.ErrShort {
				t.Fatalf("% x cut at %d is refused by %v", b, cut, plain.why)
			}
			wantNoParts(t, b[:cut:cut], api.ErrShort, plain.chain...)
		}
	}
}

// P17.2, P17.3, P17.6: bytes that were a replica's, but for one or a few.
func TestSpoiltBytesByTheWords(t *testing.T) {
	rnd := rand.New(rand.NewSource(1))
	for _, b := range saves(t, 40) {
		wantAsRead(t, b)
		for range 60 {
			wantAsRead(t, spoilt(rnd, b))
		}
	}
}

func spoilt(rnd *rand.Rand, b []byte) []byte {
	b = bytes.Clone(b)
	edges := []byte{0, 1, 2, 3, 4, 5, 7, 8, 9, 66, 0x7f, 0x80, 0x81, 0xff}
	for range 1 + rnd.Intn(3) {
		i, x := rnd.Intn(len(b)+1), edges[rnd.Intn(len(edges))]
		switch {
		case i == len(b) || rnd.Intn(4) == 0:
			b = slices.Insert(b, i, x)
		case rnd.Intn(4) == 0 && len(b) > 1:
			b = slices.Delete(b, i, i+1)
		default:
			b[i] = x
		}
	}
	return b
}

// All short rows of telling bytes, behind all sorts of beginnings.
func TestShortRowsByTheWords(t *testing.T) {
	tails := []byte{0, 1, 2, 3, 4, 8, 9, 0x80, 0xff}
	var rows func(b []byte, depth int)
	rows = func(b []byte, depth int) {
		wantAsRead(t, b)
		if depth == 0 {
			return
		}
		for _, x := range tails {
			rows(append(b[:len(b):len(b)], x), depth-1)
		}
	}
	for _, head := range []string{
		"", "42", "42 02 09 01", "42 02 09 01 02 01 00", // heads
		toBase, toBase + "01 00 00 01", toActs, toActs + "01 01 00 00", toActs + "01 02 00 00 01", toHeld, toHeld + "01 03 00 00 02 01",
		toRounds, toRounds + "01", toRounds + "02 00 01 00", toRounds + "01 01 00 02",
		toDone, toDone + "01 01 01 00", toUndone, toUndone + "02 00 01", toCursor, toCursor + "00 00",
		toOut, toEnd, "42 02 09 01 00 01 00 00 00 00 00 00 00 01", "42 02 09 01 00 01 00 00 00 00 00 00 00 01 01 00",
	} {
		rows(raw(t, head), 3)
	}
}

// anyNumber is likely to stand at an edge.
func anyNumber(rnd *rand.Rand) int {
	edges := []int{0, 0, 1, 2, 3, 127, 128, 16383, 16384, 1<<31 - 1, 1 << 31, 1 << 40, 1 << 62, most - 1, most}
	if rnd.Intn(4) > 0 {
		return edges[rnd.Intn(len(edges))]
	}
	return rnd.Int() >> rnd.Intn(63)
}

func anyChar(rnd *rand.Rand) rune {
	chars := []rune{0, 'a', 0x7f, 0x80, 0xD7FF, 0xD800, 0xDFFF, 0xE000, 0xFFFF, 0x10000, api.MaxChar}
	return chars[rnd.Intn(len(chars))]
}

func anyClock(rnd *rand.Rand) (c api.Clock) {
	for i := range rnd.Intn(9) {
		c[i] = anyNumber(rnd)
	}
	return c
}

func anyID(rnd *rand.Rand) api.ID { return id(anyNumber(rnd), anyNumber(rnd), anyNumber(rnd)) }

func anyActs(rnd *rand.Rand) (l []api.Act) {
	for range rnd.Intn(4) {
		op := api.Op{Kind: 1 + rnd.Intn(3), At: anyNumber(rnd), Replica: rnd.Intn(8)}
		if op.Kind == api.Insert {
			op.Char = anyChar(rnd)
		}
		l = append(l, api.Act{Op: op, Number: max(1, anyNumber(rnd)), Clock: anyClock(rnd)})
	}
	return l
}

func anyEdits(rnd *rand.Rand) (l [][]api.Change) {
	for range rnd.Intn(4) {
		var edit []api.Change
		for range rnd.Intn(4) {
			edit = append(edit, change(1+rnd.Intn(3), anyID(rnd)))
		}
		l = append(l, edit)
	}
	return l
}

// anyParts have a form in bytes; but there will hardly be such a replica.
func anyParts(rnd *rand.Rand) api.Parts {
	p := api.Parts{
		Config: config(anyNumber(rnd), anyNumber(rnd), anyNumber(rnd), anyNumber(rnd)), Self: anyNumber(rnd), Epoch: anyNumber(rnd),
		Acts: anyActs(rnd), Held: anyActs(rnd), Done: anyEdits(rnd), Undone: anyEdits(rnd),
	}
	for range rnd.Intn(4) {
		p.Base = append(p.Base, api.Element{ID: anyID(rnd), Char: anyChar(rnd)})
	}
	for i := range rnd.Intn(9) {
		if rnd.Intn(3) > 0 {
			p.Rounds[i] = api.Round{Number: max(1, anyNumber(rnd)), Cut: anyClock(rnd), Decision: rnd.Intn(3)}
			for k := range rnd.Intn(9) {
				p.Rounds[i].Votes[k] = rnd.Intn(3)
			}
		}
	}
	if p.Cursor.Front = rnd.Intn(2) == 0; !p.Cursor.Front {
		p.Cursor.ID = anyID(rnd)
	}
	for range rnd.Intn(4) {
		parcel := api.Parcel{From: p.Self, To: anyNumber(rnd), Bytes: make([]byte, rnd.Intn(200))}
		rnd.Read(parcel.Bytes)
		p.Out = append(p.Out, parcel)
	}
	return p
}

// P17.2, of parts that no session comes to.
func TestAnyPartsAreRead(t *testing.T) {
	rnd := rand.New(rand.NewSource(2))
	for range 1500 {
		p := anyParts(rnd)
		b := plainBytes(p)
		if got, err := image.Parts(b); err != nil || !same(got, p) {
			t.Fatalf("% x is read as\n%+v, %v, want\n%+v", b, got, err, p)
		}
		wantAsRead(t, b)
		for range 10 {
			wantAsRead(t, spoilt(rnd, b))
		}
	}
}

// P17.5, W9: a replica that is as great as can be.
func TestGreatReplica(t *testing.T) {
	p := api.Parts{Config: config(8, api.MaxModel, api.MaxBatch, api.MaxBuffer), Self: 7, Epoch: 1 << 40}
	for n := range api.MaxModel / 2 {
		p.Base = append(p.Base, api.Element{ID: id(n%3, n%8, n), Char: 0x10FFFF - rune(n)})
	}
	for n := range api.MaxModel / 16 {
		p.Acts = append(p.Acts, act(api.Insert, n, 'x', 7, n+1, 0, 0, 0, 0, 0, 0, 0, n))
	}
	for n := range api.MaxBuffer {
		p.Held = append(p.Held, act(api.Insert, n, 'y', n%7, 2+n, most))
	}
	for c := range p.Rounds {
		p.Rounds[c] = api.Round{Number: most - c, Decision: c % 3}
		p.Rounds[c].Cut[c], p.Rounds[c].Votes[c] = most, api.No
	}
	for n := range api.MaxUndo {
		p.Done = append(p.Done, slices.Repeat([]api.Change{change(1+n%3, p.Base[n].ID)}, 1+n))
	}
	p.Cursor.ID = p.Base[len(p.Base)-1].ID
	p.Out = []api.Parcel{{From: 7, To: 6, Bytes: bytes.Repeat([]byte("great"), 1<<18)}}
	wantForm(t, p, plainBytes(p))
	p.Done, p.Undone = nil, p.Done
	wantForm(t, p, plainBytes(p))
}

// W9: what is saved goes on in sessions of others.
func TestLoadedReplicasGoOnTogether(t *testing.T) {
	l := all(t, config(3, 60, 4, 4))
	for _, edit := range []func() error{
		func() error { return l[0].Insert(0, "héllo") },
		func() error { return l[1].Insert(2, "世界") },
		func() error { return l[2].Erase(1, 3) },
		func() error { return l[2].Undo() },
		func() error { return l[0].Propose() },
		func() error { return l[1].Rewrite("other") },
	} {
		ok(t, edit())
		for i, r := range l {
			l[i] = loaded(t, image.Save(r))
		}
		carry(t, l...)
		for i, r := range l {
			l[i] = loaded(t, image.Save(r))
			if r.View() != l[0].View() || r.Clock() != l[0].Clock() || !slices.Equal(r.Elements(), l[0].Elements()) {
				t.Fatalf("they part: %q and %q", r.View(), l[0].View())
			}
		}
	}
	if l[2].View() != "other" || l[2].Epoch() != 1 {
		t.Errorf("it is %q in epoch %d", l[2].View(), l[2].Epoch())
	}
}

// P17.6, R1: whatever the bytes are.
func FuzzLoad(f *testing.F) {
	for _, b := range saves(f, 3) {
		f.Add(b)
	}
	f.Add([]byte{})
	f.Add(raw(f, toBase+"ff ff ff ff 07 00"))
	f.Fuzz(func(t *testing.T, b []byte) {
		wantAsRead(t, b)
		if image.Sum(b) != plainSum(b) {
			t.Fatalf("the Sum of % x is %d", b, image.Sum(b))
		}
	})
}
