package image_test

import (
	"bytes"
	"encoding/hex"
	"errors"
	"hash/fnv"
	"math"
	"math/rand"
	"slices"
	"strings"
	"testing"

	"barrow/api"
	"barrow/fault"
	"barrow/image"
	"barrow/replica"
)

const (
	most  = math.MaxInt
	least = math.MinInt
)

// raw makes bytes of their digits to the base 16.
func raw(t testing.TB, digits string) []byte {
	t.Helper()
	b, err := hex.DecodeString(strings.ReplaceAll(digits, " ", ""))
	ok(t, err)
	return b
}

func ok(t testing.TB, errs ...error) {
	t.Helper()
	for _, err := range errs {
		if err != nil {
			t.Fatal(err)
		}
	}
}

func config(replicas, model, batch, buffer int) api.Config {
	return api.Config{Replicas: replicas, Model: model, Batch: batch, Buffer: buffer}
}

func made(t testing.TB, c api.Config, self int) *replica.Replica {
	t.Helper()
	r, err := replica.New(c, self)
	ok(t, err)
	return r
}

// all are the replicas of a session.
func all(t testing.TB, c api.Config) (l []*replica.Replica) {
	t.Helper()
	for self := range c.Replicas {
		l = append(l, made(t, c, self))
	}
	return l
}

func from(t testing.TB, p api.Parts) *replica.Replica {
	t.Helper()
	r, err := replica.From(p)
	ok(t, err)
	return r
}

func loaded(t testing.TB, b []byte) *replica.Replica {
	t.Helper()
	r, err := image.Load(b)
	if r == nil || err != nil {
		t.Fatalf("Load of % x is %v, %v", b, r, err)
	}
	return r
}

// carry lets all that goes out arrive, till nothing does.
func carry(t testing.TB, l ...*replica.Replica) {
	t.Helper()
	for more := true; more; {
		more = false
		for _, r := range l {
			for _, p := range r.Out() {
				more = true
				ok(t, l[p.To].Take(p.Bytes))
			}
		}
	}
}

func id(epoch, replica, number int) api.ID {
	return api.ID{Epoch: epoch, Replica: replica, Number: number}
}

func change(kind int, id api.ID) api.Change { return api.Change{Kind: kind, ID: id} }

func act(kind, at int, char rune, replica, number int, clock ...int) api.Act {
	x := api.Act{Op: api.Op{Kind: kind, At: at, Char: char, Replica: replica}, Number: number}
	copy(x.Clock[:], clock)
	return x
}

func link(layer, call string, at int) api.Link { return api.Link{Layer: layer, Call: call, At: at} }

// same: are they the same parts? Nil and empty lists are.
func same(a, b api.Parts) bool {
	sameEdits := func(x, y [][]api.Change) bool { return slices.EqualFunc(x, y, slices.Equal) }
	sameParcel := func(x, y api.Parcel) bool {
		return x.Serial == y.Serial && x.From == y.From && x.To == y.To && bytes.Equal(x.Bytes, y.Bytes)
	}
	return a.Config == b.Config && a.Self == b.Self && a.Epoch == b.Epoch && slices.Equal(a.Base, b.Base) &&
		slices.Equal(a.Acts, b.Acts) && slices.Equal(a.Held, b.Held) && a.Rounds == b.Rounds &&
		sameEdits(a.Done, b.Done) && sameEdits(a.Undone, b.Undone) && a.Cursor == b.Cursor && slices.EqualFunc(a.Out, b.Out, sameParcel)
}

// told is all that a replica tells.
type told struct {
	parts                             api.Parts
	config                            api.Config
	self, epoch, credit               int
	clock                             api.Clock
	frozen                            bool
	rounds                            api.Rounds
	view                              string
	len, live, cursor, undone, redone int
	elements                          []api.Element
	acts, held                        []api.Act
}

func tell(r *replica.Replica) told {
	x := told{
		parts: r.Parts(), config: r.Config(), self: r.Self(), epoch: r.Epoch(), credit: r.Credit(),
		clock: r.Clock(), frozen: r.Frozen(), rounds: r.Rounds(), view: r.View(),
		len: r.Len(), live: r.Live(), cursor: r.Cursor(),
		elements: r.Elements(), acts: r.Acts(), held: r.Held(),
	}
	x.undone, x.redone = r.Depth()
	return x
}

func sameTold(a, b told) bool {
	return same(a.parts, b.parts) && slices.Equal(a.elements, b.elements) && slices.Equal(a.acts, b.acts) && slices.Equal(a.held, b.held) &&
		a.config == b.config && a.self == b.self && a.epoch == b.epoch && a.credit == b.credit && a.clock == b.clock && a.frozen == b.frozen &&
		a.rounds == b.rounds && a.view == b.view && a.len == b.len && a.live == b.live && a.cursor == b.cursor && a.undone == b.undone && a.redone == b.redone
}

// wantForm: the parts have these bytes, and the bytes are these parts, and such
// a replica.
func wantForm(t testing.TB, p api.Parts, want []byte) {
	t.Helper()
	if got, err := image.Bytes(p); err != nil || !bytes.Equal(got, want) {
		t.Fatalf("the bytes of %+v are\n% x, %v, want\n% x", p, got, err, want)
	}
	if got, err := image.Parts(want); err != nil || !same(got, p) {
		t.Fatalf("% x is read as\n%+v, %v, want\n%+v", want, got, err, p)
	}
	r := from(t, p)
	if got := image.Save(r); !bytes.Equal(got, want) {
		t.Fatalf("%+v is saved as\n% x, want\n% x", p, got, want)
	}
	if got := loaded(t, want); !sameTold(tell(got), tell(r)) {
		t.Fatalf("% x is loaded as\n%+v, want\n%+v", want, tell(got), tell(r))
	}
}

func wantRefusal(t testing.TB, err, why error, chain ...api.Link) {
	t.Helper()
	if !errors.Is(err, why) || fault.Named(fault.Code(err)) != why || !slices.Equal(fault.Chain(err), chain) {
		t.Fatalf("%v %v, want %v %v", err, fault.Chain(err), why, chain)
	}
}

// wantNoParts: the bytes are refused, by Load just as by Parts.
func wantNoParts(t testing.TB, b []byte, why error, chain ...api.Link) {
	t.Helper()
	p, err := image.Parts(b)
	wantRefusal(t, err, why, chain...)
	r, again := image.Load(b)
	wantRefusal(t, again, why, chain...)
	if !same(p, api.Parts{}) || r != nil || err.Error() != again.Error() {
		t.Fatalf("% x is %+v, %v beside %v, %v", b, p, r, err, again)
	}
}

// wantNoForm: image itself refuses the bytes.
func wantNoForm(t testing.TB, b []byte, at int) {
	t.Helper()
	wantNoParts(t, b, api.ErrForm, link("image", "Parts", at))
}

// wantWire: wire refuses the bytes, and image wraps that.
func wantWire(t testing.TB, b []byte, call string, at int, why error) {
	t.Helper()
	wantNoParts(t, b, why, link("image", "Parts", at), link("wire", call, at))
}

// wantNoReplica: there are parts in the bytes, but there is no such replica.
func wantNoReplica(t testing.TB, b []byte, why error, chain ...api.Link) {
	t.Helper()
	p, err := image.Parts(b)
	ok(t, err)
	r, err := image.Load(b)
	wantRefusal(t, err, why, append([]api.Link{link("image", "Load", -1)}, chain...)...)
	if r != nil {
		t.Fatalf("there is %v beside %v", r, err)
	}
	wantNoBytes(t, p)
}

func wantNoBytes(t testing.TB, p api.Parts) {
	t.Helper()
	b, err := image.Bytes(p)
	f, isFault := err.(*fault.Fault)
	if len(b) > 0 || !isFault || *f != (fault.Fault{Layer: "image", Call: "Bytes", At: -1, Why: api.ErrForm}) {
		t.Fatalf("Bytes of %+v is % x, %v", p, b, err)
	}
}

// full are parts that have something of everything.
func full() api.Parts {
	p := api.Parts{
		Config: config(3, 61, 4, 5), Self: 1, Epoch: 2,
		Base: []api.Element{{ID: id(1, 2, 300), Char: 'a'}, {ID: id(0, 9, 1), Char: 0x4E16}},
		Acts: []api.Act{
			act(api.Insert, 1, 'q', 1, 1),
			act(api.Erase, 0, 0, 0, 1, 0, 1),
			act(api.Restore, 0, 0, 2, 1, 1, 1),
		},
		Held:   []api.Act{act(api.Insert, 5, 'w', 2, 3, 1, 1, 2)},
		Done:   [][]api.Change{{change(api.Insert, id(2, 1, 1))}, {change(api.Erase, id(1, 2, 300)), change(api.Restore, id(0, 9, 1))}},
		Undone: [][]api.Change{{change(api.Erase, id(0, 9, 1))}},
		Cursor: api.Anchor{ID: id(1, 2, 300)},
		Out:    []api.Parcel{{From: 1, To: 0, Bytes: []byte("ab")}, {From: 1, To: 2}},
	}
	p.Rounds[1] = api.Round{Number: 1, Cut: api.Clock{1, 1, 1}, Votes: [api.MaxReplicas]int{0, 1, 2}}
	return p
}

const (
	fullHead   = "42 03 3d 04 05 01 02"
	fullBase   = "02  01 02 ac 02 61  00 09 01 96 9c 01"
	fullActs   = "03  01 01 01 71 01 00  02 00 00 01 02 00 01  03 02 00 01 02 01 01"
	fullHeld   = "01  01 02 05 77 03 03 01 01 02"
	fullRounds = "02  00  01 03 01 01 01 03 00 01 02 00"
	fullDone   = "02  01 01 02 01 01  02 02 01 02 ac 02 03 00 09 01"
	fullUndone = "01  01 02 00 09 01"
	fullCursor = "00 01 02 ac 02"
	fullOut    = "02  00 02 61 62  02 00"
	fullDigits = fullHead + fullBase + fullActs + fullHeld + fullRounds + fullDone + fullUndone + fullCursor + fullOut
)

// rich is a replica that has come to something of everything by what was done.
func rich(t testing.TB) *replica.Replica {
	t.Helper()
	l := all(t, config(3, 61, 4, 4))
	ok(t, l[0].Insert(0, "abcd"), l[0].Erase(1, 1), l[1].Insert(0, "xyz"))
	carry(t, l...)
	ok(t, l[0].Propose())
	carry(t, l...)
	r := l[1]
	ok(t, r.Insert(2, "é世"), r.Erase(0, 1), r.Insert(1, "q"), r.Undo(), l[2].Insert(0, "u"))
	other := l[2].Out()
	ok(t, l[2].Insert(1, "v"))
	l[2].Out()
	ok(t, l[2].Insert(2, "w"))
	ok(t, r.Take(other[1].Bytes), r.Take(l[2].Out()[1].Bytes))
	ok(t, r.Move(2), r.Propose())
	p := r.Parts()
	if p.Epoch != 1 || len(p.Base) != 6 || len(p.Acts) != 6 || len(p.Held) != 1 || p.Rounds == (api.Rounds{}) ||
		len(p.Done) != 2 || len(p.Undone) != 1 || p.Cursor.Front || len(p.Out) != 10 {
		t.Fatalf("its parts are %+v", p)
	}
	return r
}

// P17.1

func TestBytesOfEverything(t *testing.T) {
	wantForm(t, full(), raw(t, fullDigits))
	wantForm(t, rich(t).Parts(), plainBytes(rich(t).Parts()))
}

// Parts that lack one thing, or have more or others of it.
func TestBytesOfEachPart(t *testing.T) {
	none := "00"
	for _, x := range []struct {
		name   string
		change func(p *api.Parts)
		pieces [9]string // those that are others
	}{
		{"another head", func(p *api.Parts) {
			p.Config, p.Self, p.Epoch = config(8, 65536, 256, 256), 7, 300
			p.Acts, p.Done, p.Out = nil, p.Done[1:], nil
		}, [9]string{0: "42 08 80 80 04 80 02 80 02 07 ac 02", 2: none, 5: "01 02 02 01 02 ac 02 03 00 09 01", 8: none}},
		{"no base", func(p *api.Parts) {
			p.Base, p.Acts, p.Done, p.Undone, p.Cursor = nil, nil, nil, nil, api.Anchor{Front: true}
		}, [9]string{1: none, 2: none, 5: none, 6: none, 7: "01"}},
		{"great IDs", func(p *api.Parts) { p.Base[1].ID, p.Done[1], p.Undone = id(most, most, most), p.Done[0], nil },
			[9]string{1: "02  01 02 ac 02 61" + strings.Repeat("ff ff ff ff ff ff ff ff 7f", 3) + "96 9c 01", 5: "02  01 01 02 01 01  01 01 02 01 01", 6: none}},
		{"the last Char", func(p *api.Parts) { p.Base[0].Char = api.MaxChar }, [9]string{1: "02  01 02 ac 02 ff ff 43  00 09 01 96 9c 01"}},
		{"the Char 0", func(p *api.Parts) { p.Base[0].Char = 0 }, [9]string{1: "02  01 02 ac 02 00  00 09 01 96 9c 01"}},
		{"no held acts", func(p *api.Parts) { p.Held = nil }, [9]string{3: none}},
		{"two held acts", func(p *api.Parts) { p.Held = append(p.Held, act(api.Restore, 0, 0, 0, 3, 2)) },
			[9]string{3: "02  01 02 05 77 03 03 01 01 02  03 00 00 03 01 02"}},
		{"no rounds", func(p *api.Parts) { p.Rounds = api.Rounds{} }, [9]string{4: none}},
		{"the last round", func(p *api.Parts) { p.Rounds = api.Rounds{7: {Number: 128, Decision: api.Abort}} },
			[9]string{4: "08 00 00 00 00 00 00 00 80 01 00 00 02"}},
		{"nothing done", func(p *api.Parts) { p.Done = nil }, [9]string{5: none}},
		{"nothing undone", func(p *api.Parts) { p.Undone = nil }, [9]string{6: none}},
		{"done and undone", func(p *api.Parts) { p.Done, p.Undone = p.Undone, p.Done }, [9]string{5: fullUndone, 6: fullDone}},
		{"the front", func(p *api.Parts) { p.Cursor = api.Anchor{Front: true} }, [9]string{7: "01"}},
		{"no parcels", func(p *api.Parts) { p.Out = nil }, [9]string{8: none}},
		{"a long parcel", func(p *api.Parts) { p.Out = []api.Parcel{{From: 1, To: 2, Bytes: bytes.Repeat([]byte{0xff}, 130)}} },
			[9]string{8: "01 02 82 01" + strings.Repeat("ff", 130)}},
	} {
		t.Run(x.name, func(t *testing.T) {
			p := full()
			x.change(&p)
			digits := ""
			for i, piece := range [9]string{fullHead, fullBase, fullActs, fullHeld, fullRounds, fullDone, fullUndone, fullCursor, fullOut} {
				if x.pieces[i] != "" {
					piece = x.pieces[i]
				}
				digits += piece
			}
			wantForm(t, p, raw(t, digits))
		})
	}
}

// Whatever replica.From says, the reason is ErrForm.
func TestBytesRefused(t *testing.T) {
	wantNoBytes(t, api.Parts{})
	for name, spoil := range map[string]func(p *api.Parts){
		"no replicas":               func(p *api.Parts) { p.Config.Replicas = 0 },
		"nine replicas":             func(p *api.Parts) { p.Config.Replicas = 9 },
		"a Model below 0":           func(p *api.Parts) { p.Config.Model = -1 },
		"a Model too great":         func(p *api.Parts) { p.Config.Model = api.MaxModel + 1 },
		"a Batch of 0":              func(p *api.Parts) { p.Config.Batch = 0 },
		"a Batch too great":         func(p *api.Parts) { p.Config.Batch = api.MaxBatch + 1 },
		"a Buffer below 0":          func(p *api.Parts) { p.Config.Buffer = least },
		"a Buffer too great":        func(p *api.Parts) { p.Config.Buffer = api.MaxBuffer + 1 },
		"Self below 0":              func(p *api.Parts) { p.Self = -1 },
		"another Self":              func(p *api.Parts) { p.Self = 3 },
		"an Epoch below 0":          func(p *api.Parts) { p.Epoch = -1 },
		"an Epoch too great":        func(p *api.Parts) { p.Epoch = 1<<40 + 1 },
		"a Hides of 1":              func(p *api.Parts) { p.Base[1].Hides = 1 },
		"a Hides of -1":             func(p *api.Parts) { p.Base[1].Hides = -1 },
		"an ID below 0":             func(p *api.Parts) { p.Base[1].ID.Replica = -1 },
		"a Char of no text":         func(p *api.Parts) { p.Base[1].Char = 0xD800 },
		"a Char below 0":            func(p *api.Parts) { p.Base[1].Char = -1 },
		"an ID twice":               func(p *api.Parts) { p.Base[1].ID = p.Base[0].ID },
		"a long Base":               func(p *api.Parts) { p.Config.Model = 1 },
		"an act's kind":             func(p *api.Parts) { p.Acts[2].Op.Kind = 4 },
		"an Erase with a Char":      func(p *api.Parts) { p.Acts[1].Op.Char = 'x' },
		"a Restore with a Char":     func(p *api.Parts) { p.Acts[2].Op.Char = 'x' },
		"an act's place":            func(p *api.Parts) { p.Acts[1].Op.At = -1 },
		"an act twice":              func(p *api.Parts) { p.Acts[1] = p.Acts[0] },
		"an act's clock":            func(p *api.Parts) { p.Acts[2].Clock[0] = -1 },
		"more than the credit":      func(p *api.Parts) { p.Config.Model = 4 },
		"a held act's kind":         func(p *api.Parts) { p.Held[0].Op.Kind = 0 },
		"a held act's Char":         func(p *api.Parts) { p.Held[0].Op.Char = api.MaxChar + 1 },
		"a held Erase with a Char":  func(p *api.Parts) { p.Held[0].Op.Kind = api.Erase },
		"a held act that is ready":  func(p *api.Parts) { p.Held[0].Number, p.Held[0].Clock[2] = 2, 1 },
		"a held act too many":       func(p *api.Parts) { p.Config.Buffer = 0 },
		"a round's Number":          func(p *api.Parts) { p.Rounds[1].Number = -1 },
		"a round of the Number 0":   func(p *api.Parts) { p.Rounds[7].Decision = api.Abort },
		"a vote":                    func(p *api.Parts) { p.Rounds[1].Votes[0] = 3 },
		"an edit of nothing":        func(p *api.Parts) { p.Done[0] = nil },
		"a change's kind":           func(p *api.Parts) { p.Undone[0][0].Kind = 0 },
		"a change of nothing":       func(p *api.Parts) { p.Undone[0][0].ID.Number = 2 },
		"a change's ID below 0":     func(p *api.Parts) { p.Undone[0][0].ID.Number = -1 },
		"65 edits":                  func(p *api.Parts) { p.Done = slices.Repeat(p.Done[:1], 64) },
		"a cursor nowhere":          func(p *api.Parts) { p.Cursor.ID.Number = 301 },
		"a front with an ID":        func(p *api.Parts) { p.Cursor.Front = true },
		"a parcel's Serial":         func(p *api.Parts) { p.Out[0].Serial = 1 },
		"a parcel from another one": func(p *api.Parts) { p.Out[0].From = 0 },
		"a parcel to itself":        func(p *api.Parts) { p.Out[0].To = 1 },
		"a parcel to nobody":        func(p *api.Parts) { p.Out[0].To = -1 },
	} {
		t.Run(name, func(t *testing.T) {
			p := full()
			spoil(&p)
			wantNoBytes(t, p)
		})
	}
}

func TestSaveIsBytesOfParts(t *testing.T) {
	c := config(2, 20, 4, 4)
	l := all(t, c)
	check := func() {
		t.Helper()
		for _, r := range l {
			want, err := image.Bytes(r.Parts())
			if got := image.Save(r); err != nil || !bytes.Equal(got, want) || !bytes.Equal(got, plainBytes(r.Parts())) {
				t.Fatalf("% x, want % x, %v", got, want, err)
			}
		}
	}
	for _, edit := range []func() error{
		func() error { return l[0].Insert(0, "héllo") },
		func() error { return l[1].Insert(0, "世") },
		func() error { return l[0].Erase(1, 2) },
		func() error { return l[0].Undo() },
		func() error { return l[0].Redo() },
		func() error { return l[0].Rewrite("hole") },
		func() error { return l[0].Move(2) },
		func() error { return l[1].Sync(0) },
		func() error { return l[0].Propose() },
	} {
		ok(t, edit())
		check()
	}
	carry(t, l...)
	check()
	ok(t, l[1].Insert(0, "x"), l[1].Propose())
	check()
}

func TestSaveOfNone(t *testing.T) {
	if b := image.Save(nil); len(b) != 0 {
		t.Errorf("% x", b)
	}
}

// P17.2: what image itself refuses, at the place at which it begins

// Bytes up to a part, of parts that have nothing ahead of that.
const (
	toBase   = "42 01 09 01 00 00 00" // 7 bytes
	toActs   = toBase + "00"
	toHeld   = toActs + "00"
	toRounds = toHeld + "00"
	toDone   = toRounds + "00"
	toUndone = toDone + "00"
	toCursor = toUndone + "00"
	toOut    = toCursor + "01"
	toEnd    = toOut + "00"
)

func TestFirstByte(t *testing.T) {
	rest := raw(t, toEnd)[1:]
	for first := range 256 {
		b := append([]byte{byte(first)}, rest...)
		if first == 66 {
			loaded(t, b)
			continue
		}
		wantNoForm(t, b, 0)
		wantNoForm(t, b[:1], 0)
	}
}

func TestKindsThatAreNone(t *testing.T) {
	for kind := range 256 {
		if kind >= 1 && kind <= 3 {
			continue
		}
		k := string(hex.AppendEncode(nil, []byte{byte(kind)}))
		wantNoForm(t, raw(t, toActs+"01"+k+"00 00 00"), 9)
		wantNoForm(t, raw(t, toActs+"02 02 00 00 01 00"+k+"ff ff ff"), 14)
		wantNoForm(t, raw(t, toHeld+"01"+k+"08 ff ff"), 10)
		wantNoForm(t, raw(t, toDone+"01 01"+k+"ff ff ff"), 13)
		wantNoForm(t, raw(t, toDone+"02 01 01 00 00 00 01"+k+"00 00 00"), 18)
		wantNoForm(t, raw(t, toUndone+"01 02 03 00 00 00"+k+"00 00 00"), 18)
	}
}

func TestCursorsByte(t *testing.T) {
	for first := range 256 {
		b := append(raw(t, toCursor), byte(first))
		switch first {
		case 0:
			wantWire(t, b, "Number", 14, api.ErrShort)
		case 1:
			wantWire(t, b, "Count", 14, api.ErrShort)
		default:
			wantNoForm(t, b, 13)
			wantNoForm(t, append(b, 0, 0, 0, 0), 13)
		}
	}
}

// What packet refuses of clocks, acts and rounds.
func TestZerosThatHaveNoForm(t *testing.T) {
	for digits, at := range map[string]int{
		toActs + "01  01 00 00 61 00":                         13, // an act's Number
		toActs + "01  02 00 80 01 00 ff":                      13,
		toHeld + "02  03 07 00 01 00  02 00 00 00 ff":         18,
		toActs + "01  02 00 00 01 01 00":                      14, // the last entry of a clock
		toHeld + "01  02 00 00 01 08 00 01 01 01 01 01 01 00": 22,
		toRounds + "01 00":                                    11, // the Number of the last round
		toRounds + "08 00 00 00 00 00 00 00 00":               18,
		toRounds + "02 01 00 00 00 00":                        15,
		toRounds + "01  01 01 00 ff":                          13, // the last entry of a Cut
		toRounds + "01  01 00 02 01 00 ff":                    15, // the last vote
		toRounds + "02  00 01 00 08 00 00 00 00 00 00 00 00":  22,
	} {
		wantNoForm(t, raw(t, digits), at)
	}
}

// P17.2: what wire refuses, wrapped

// Numbers that are not taken, whatever the most is, and whatever comes behind
// those that are not short.
var noNumbers = map[string]error{
	"ff ff ff ff ff ff ff ff":    api.ErrShort,
	"80 00":                      api.ErrForm,
	"ff ff ff ff ff ff ff ff 00": api.ErrForm,
	"ff ff ff ff ff ff ff ff ff": api.ErrForm,
	"80 80 80 80 80 80 80 80 80": api.ErrForm,
}

// Each number in its turn.
func TestWrongNumbers(t *testing.T) {
	for _, x := range []struct {
		call  string
		ahead []string
	}{
		{"Number", []string{"42", "42 01", "42 01 09", "42 01 09 01", "42 01 09 01 00", "42 01 09 01 00 00"}}, // Config, Self, Epoch
		{"Count", []string{toBase, toActs, toHeld, toDone, toUndone, toOut, toDone + "01", toUndone + "02 00"}},
		{"Number", []string{toBase + "01", toBase + "01 05", toBase + "01 05 05", toBase + "01 05 05 05"}}, // an element
		{"Number", []string{toActs + "01 01", toActs + "01 01 01", toActs + "01 01 01 01", toActs + "01 01 01 01 01", toActs + "01 01 01 01 01 01"}},
		{"Number", []string{toHeld + "01 02", toHeld + "01 02 01", toHeld + "01 02 01 01", toHeld + "01 02 01 01 01", toHeld + "01 02 01 01 01 02 01"}},
		{"Number", []string{toRounds, toRounds + "01", toRounds + "01 01", toRounds + "01 01 01", toRounds + "01 01 00", toRounds + "01 01 00 01", toRounds + "01 01 00 00"}},
		{"Number", []string{toDone + "01 01 01", toDone + "01 01 02 05", toDone + "01 01 03 05 05", toUndone + "01 01 01"}}, // a change
		{"Number", []string{toCursor + "00", toCursor + "00 ac 02", toCursor + "00 07 07"}},
		{"Number", []string{toOut + "01"}},
		{"Text", []string{toOut + "01 00", toOut + "02 07 00 07"}},
	} {
		for _, digits := range x.ahead {
			ahead := raw(t, digits)
			for no, why := range noNumbers {
				b := append(ahead[:len(ahead):len(ahead)], raw(t, no)...)
				if why == api.ErrForm {
					b = append(b, 1, 1, 1, 1, 1, 1)
				}
				wantWire(t, b, x.call, len(ahead), why)
			}
		}
	}
}

// No bytes at all where something is to come.
func TestNothingComes(t *testing.T) {
	for ahead, call := range map[string]string{
		"": "Byte", "42": "Number", "42 01": "Number", "42 01 09": "Number", "42 01 09 01": "Number", "42 01 09 01 00": "Number", "42 01 09 01 00 00": "Number",
		toBase: "Count", toActs: "Count", toHeld: "Count", toRounds: "Number", toDone: "Count", toUndone: "Count", toCursor: "Byte", toOut: "Count",
		toRounds + "01": "Number", toRounds + "01 01": "Number", toRounds + "01 01 00": "Number", toRounds + "01 01 00 00": "Number",
		toActs + "01 02 00 00 01": "Number", toHeld + "01 01 00 00 61 01": "Number", toCursor + "00": "Number", toCursor + "00 00 00": "Number",
	} {
		wantWire(t, raw(t, ahead), call, len(raw(t, ahead)), api.ErrShort)
	}
}

// Numbers that are greater than their most.
func TestNumbersOutOfRange(t *testing.T) {
	const room = "7f 7f 7f 7f 7f 7f 7f 7f"
	for _, x := range []struct {
		ahead, last, past string // the last one that is taken, and the first that is not
	}{
		{toBase + "01 05 05 05", "ff ff 43", "80 80 44"}, // a Char
		{toActs + "01 01 05 05", "ff ff 43", "80 80 44"},
		{toHeld + "01 01 05 05", "ff ff 43", "80 80 44"},
		{toActs + "01 01", "07", "08"}, // an act's Replica
		{toHeld + "01 03", "07", "08"},
		{toActs + "01 02 00 00 01", "08", "09"}, // how many entries of a clock
		{toHeld + "01 01 00 00 61 01", "08", "09"},
		{toRounds, "08", "09"},
		{toRounds + "01 01", "08", "09"},    // of a Cut
		{toRounds + "01 01 00", "08", "09"}, // of votes
		{toRounds + "01 01 00 01", "02", "03"},
		{toRounds + "01 01 00 02", "02", "03"},
		{toRounds + "01 01 00 00", "02", "03"}, // a Decision
	} {
		at := len(raw(t, x.ahead))
		wantWire(t, raw(t, x.ahead+x.past+room), "Number", at, api.ErrRange)
		_, err := image.Parts(raw(t, x.ahead+x.last+room))
		if first, _ := fault.First(err); first.At <= at {
			t.Errorf("%s %s: %v", x.ahead, x.last, err)
		}
	}
}

// All other numbers may be as great as can be: what is too much for a replica
// is refused later.
func TestGreatNumbersAreRead(t *testing.T) {
	const top = " ff ff ff ff ff ff ff ff 7f "
	digits := "42" + strings.Repeat(top, 6) +
		"01" + strings.Repeat(top, 3) + "ff ff 43" +
		"01  01 07" + top + "ff ff 43" + top + "08" + strings.Repeat(top, 8) +
		"01  03 07" + top + top + "08" + strings.Repeat(top, 8) +
		"08" + strings.Repeat(top+"08"+strings.Repeat(top, 8)+"08 02 02 02 02 02 02 02 02 02", 8) +
		"01  01 01" + strings.Repeat(top, 3) + "01  01 03" + strings.Repeat(top, 3) +
		"00" + strings.Repeat(top, 3) + "01" + top + "01 ff"
	full := api.Clock{most, most, most, most, most, most, most, most}
	want := api.Parts{
		Config: config(most, most, most, most), Self: most, Epoch: most,
		Base:   []api.Element{{ID: id(most, most, most), Char: api.MaxChar}},
		Acts:   []api.Act{act(api.Insert, most, api.MaxChar, 7, most, full[:]...)},
		Held:   []api.Act{act(api.Restore, most, 0, 7, most, full[:]...)},
		Done:   [][]api.Change{{change(api.Insert, id(most, most, most))}},
		Undone: [][]api.Change{{change(api.Restore, id(most, most, most))}},
		Cursor: api.Anchor{ID: id(most, most, most)},
		Out:    []api.Parcel{{From: most, To: most, Bytes: []byte{0xff}}},
	}
	for i := range want.Rounds {
		want.Rounds[i] = api.Round{Number: most, Cut: full, Votes: [api.MaxReplicas]int{2, 2, 2, 2, 2, 2, 2, 2}, Decision: 2}
	}
	if p, err := image.Parts(raw(t, digits)); err != nil || !same(p, want) {
		t.Errorf("it is read as\n%+v, %v, want\n%+v", p, err, want)
	}
	wantNoReplica(t, raw(t, digits), api.ErrArg, link("replica", "From", most))
}

// So many things as have no room in the bytes, and as just have.
func TestCounts(t *testing.T) {
	for _, x := range []struct {
		ahead string
		least int
	}{
		{toBase, 4}, {toActs, 4}, {toHeld, 4}, {toDone, 1}, {toUndone, 1}, {toDone + "01", 4}, {toUndone + "03", 4}, {toOut, 2},
	} {
		ahead := raw(t, x.ahead)
		for n := 1; n < 40; n++ {
			b := append(ahead[:len(ahead):len(ahead)], byte(n))
			b = append(b, make([]byte, n*x.least)...)
			wantWire(t, b[:len(b)-1], "Count", len(ahead), api.ErrShort)
			// just enough: if anything is refused, then it is what comes behind
			_, err := image.Parts(b)
			if first, _ := fault.First(err); err != nil && first.At <= len(ahead) {
				t.Errorf("% x: %v", b, err)
			}
		}
		room := strings.Repeat("00", 200)
		wantWire(t, raw(t, x.ahead+"ff ff ff ff 07"+room), "Count", len(ahead), api.ErrShort)
		wantWire(t, raw(t, x.ahead+"80 80 80 80 08"+room), "Count", len(ahead), api.ErrRange)
		wantWire(t, raw(t, x.ahead+"ff ff ff ff ff ff ff ff 7f"+room), "Count", len(ahead), api.ErrRange)
	}
}

func TestParcelsText(t *testing.T) {
	wantWire(t, raw(t, toOut+"01 01 01"), "Text", 16, api.ErrShort)
	wantWire(t, raw(t, toOut+"01 01 03 61 62"), "Text", 16, api.ErrShort)
	wantWire(t, raw(t, toOut+"02 01 00 01 80"), "Text", 18, api.ErrShort)
	wantWire(t, raw(t, toOut+"01 01 ff ff ff ff 07 61"), "Text", 16, api.ErrShort)
	wantWire(t, raw(t, toOut+"01 01 80 80 80 80 08 61"), "Text", 16, api.ErrRange)
	wantWire(t, raw(t, toOut+"01 01 ff ff ff ff ff ff ff ff 7f"), "Text", 16, api.ErrRange)
	wantWire(t, raw(t, toOut+"01 01 02 61 62 63"), "End", 19, api.ErrForm)
	p, err := image.Parts(raw(t, "42 02 09 01 00 01 00 00 00 00 00 00 00 01 02 00 03 ff 00 61 00 00"))
	want := api.Parts{Config: config(2, 9, 1, 0), Self: 1, Cursor: api.Anchor{Front: true},
		Out: []api.Parcel{{From: 1, Bytes: []byte("\xff\x00a")}, {From: 1}}}
	if err != nil || !same(p, want) {
		t.Errorf("%+v, %v", p, err)
	}
}

func TestEnd(t *testing.T) {
	whole := raw(t, toEnd)
	loaded(t, whole)
	for last := range 256 {
		wantWire(t, append(whole[:len(whole):len(whole)], byte(last)), "End", len(whole), api.ErrForm)
	}
	wantWire(t, append(raw(t, fullDigits), make([]byte, 1000)...), "End", len(raw(t, fullDigits)), api.ErrForm)
}

// Of several refusals the one is answered that comes first in the bytes; what
// a replica would say comes behind them all.
func TestFirstRefusal(t *testing.T) {
	wantNoForm(t, raw(t, "43 80 00"), 0)
	wantWire(t, raw(t, "42 09 80 00 00 04"), "Number", 2, api.ErrForm)
	wantNoForm(t, raw(t, toActs+"01 04 08 80 00"), 9)
	wantWire(t, raw(t, toActs+"01 03 08 80 00"), "Number", 10, api.ErrRange)
	wantNoForm(t, raw(t, toDone+"01 01 04 80 00 02"), 13)
	wantWire(t, raw(t, toDone+"01 01 03 80 00 02"), "Number", 14, api.ErrForm)
	wantNoForm(t, raw(t, "42 09 09 01 00 00 00 00 00 00 00 00 00 02"), 13)
	wantWire(t, raw(t, "42 09 09 01 00 00 00 00 00 00 00 00 00 01 00 00"), "End", 15, api.ErrForm)
}

// P17.3

func TestLoadOfWhatFromRefuses(t *testing.T) {
	from := link("replica", "From", 0)
	wantNoReplica(t, raw(t, strings.Replace(toEnd, "42 01", "42 00", 1)), api.ErrArg, from)
	wantNoReplica(t, raw(t, strings.Replace(toEnd, "42 01", "42 09", 1)), api.ErrArg, from)
	wantNoReplica(t, raw(t, "42 02 80 01 01 00 02 00 00 00 00 00 00 00 01 00"), api.ErrArg, link("replica", "From", 2))
	wantNoReplica(t, raw(t, "42 01 09 01 00 00 81 80 80 80 80 20 00 00 00 00 00 00 01 00"), api.ErrArg, from) // the Epoch 2^40 + 1
	loaded(t, raw(t, "42 01 09 01 00 00 80 80 80 80 80 20 00 00 00 00 00 00 01 00"))
	wantNoReplica(t, raw(t, toBase+"01 00 00 00 80 b0 03 00 00 00 00 00 01 00"), api.ErrText, from, link("history", "New", 0), link("model", "Of", 0))
	wantNoReplica(t, raw(t, toBase+"02 00 00 00 61 00 00 00 62 00 00 00 00 00 01 00"), api.ErrTwice, from, link("history", "New", 0), link("model", "Of", 1))
	wantNoReplica(t, raw(t, toActs+"01 02 00 00 01 00 00 00 00 00 01 00"), api.ErrForm, from)                               // an Erase of nothing
	wantNoReplica(t, raw(t, toHeld+"01 02 00 00 01 00 00 00 00 01 00"), api.ErrForm, from)                                  // it is ready
	wantNoReplica(t, raw(t, toDone+"01 00 00 01 00"), api.ErrForm, from, link("undo", "Load", 0))                           // an edit of nothing
	wantNoReplica(t, raw(t, toUndone+"41"+strings.Repeat("00", 65)+"01 00"), api.ErrArg, from, link("undo", "Load", 65))    // 65 edits
	wantNoReplica(t, raw(t, toDone+"01 01 01 00 00 07 00 01 00"), api.ErrForm, from)                                        // a change of nothing
	wantNoReplica(t, raw(t, toCursor+"00 00 00 00 00"), api.ErrForm, from)                                                  // a cursor nowhere
	wantNoReplica(t, raw(t, toOut+"01 00 00"), api.ErrForm, from)                                                           // a parcel to itself
	wantNoReplica(t, raw(t, "42 02 09 01 00 01 00 00 00 00 00 00 00 01 01 02 00"), api.ErrForm, link("replica", "From", 1)) // and to nobody
}

// P17.4

func TestSum(t *testing.T) {
	rnd := rand.New(rand.NewSource(1))
	for length := range 300 {
		b := make([]byte, length)
		rnd.Read(b)
		h := fnv.New32a()
		h.Write(b)
		if got := image.Sum(b); got != h.Sum32() || got != plainSum(b) {
			t.Fatalf("the Sum of % x is %d, want %d", b, got, h.Sum32())
		}
	}
	for b := range 256 {
		if got, want := image.Sum([]byte{byte(b)}), (2166136261^uint32(b))*16777619; got != want {
			t.Errorf("the Sum of %x is %d, want %d", b, got, want)
		}
	}
	for text, want := range map[string]uint32{"": 0x811c9dc5, "a": 0xe40c292c, "foobar": 0xbf9cf968, "\x00": 0x050c5d1f, "\x00\x00": 0x117697cd} {
		if got := image.Sum([]byte(text)); got != want {
			t.Errorf("the Sum of %q is %x, want %x", text, got, want)
		}
	}
}
