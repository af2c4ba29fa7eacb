package replica_test

import (
	"reflect"
	"runtime"
	"slices"
	"strings"
	"testing"

	"barrow/api"
	"barrow/replica"
)

// scrawl writes over a list, its spare room too.
func scrawl[E any](l []E, with E) {
	l = l[:cap(l)]
	for i := range l {
		l[i] = with
	}
}

func scrawlParcels(l []api.Parcel) {
	for _, p := range l {
		scrawl(p.Bytes, 0xEE)
	}
	scrawl(l, api.Parcel{Serial: -7})
}

func scrawlEdits(l [][]api.Change) {
	for _, e := range l {
		scrawl(e, change(-7, api.ID{}))
	}
	scrawl(l, nil)
}

func scrawlParts(p api.Parts) {
	scrawl(p.Base, api.Element{Char: -7})
	scrawl(p.Acts, api.Act{Number: -7})
	scrawl(p.Held, api.Act{Number: -7})
	scrawlEdits(p.Done)
	scrawlEdits(p.Undone)
	scrawlParcels(p.Out)
}

// roomy is a list with spare room in which there stands something.
func roomy[E any](l []E, spare E) []E {
	out := make([]E, len(l), len(l)+3)
	copy(out, l)
	scrawl(out[len(l):], spare)
	return out
}

func roomyEdits(l [][]api.Change) [][]api.Change {
	var out [][]api.Change
	for _, e := range l {
		out = append(out, roomy(e, change(5, id(5, 5, 5))))
	}
	return roomy(out, []api.Change{change(6, id(6, 6, 6))})
}

func roomyParts(p api.Parts) api.Parts {
	p.Base = roomy(p.Base, api.Element{Char: 'R'})
	p.Acts = roomy(p.Acts, act(9, 9, 9, 9, 9))
	p.Held = roomy(p.Held, act(8, 8, 8, 8, 8))
	p.Done, p.Undone = roomyEdits(p.Done), roomyEdits(p.Undone)
	for i := range p.Out {
		p.Out[i].Bytes = roomy(p.Out[i].Bytes, 0xDD)
	}
	p.Out = roomy(p.Out, api.Parcel{Serial: 4})
	return p
}

// whole is parts with their spare room.
func whole(p api.Parts) api.Parts {
	p.Base, p.Acts, p.Held = p.Base[:cap(p.Base)], p.Acts[:cap(p.Acts)], p.Held[:cap(p.Held)]
	edits := func(l [][]api.Change) [][]api.Change {
		l = slices.Clone(l[:cap(l)])
		for i := range l {
			l[i] = l[i][:cap(l[i])]
		}
		return l
	}
	p.Done, p.Undone = edits(p.Done), edits(p.Undone)
	p.Out = slices.Clone(p.Out[:cap(p.Out)])
	for i := range p.Out {
		p.Out[i].Bytes = p.Out[i].Bytes[:cap(p.Out[i].Bytes)]
	}
	return p
}

// busy does some of everything to a replica in epoch 1.
func busy(t testing.TB, r *replica.Replica) {
	abort := r.Rounds()
	abort[1].Decision = api.Abort
	ok(t, r.Take(raw(t, state(0, 1, abort))))
	ok(t, r.Redo(), r.Undo(), r.Undo(), r.Insert(0, "new"), r.Erase(0, 2), r.Rewrite("other"), r.Sync(0))
	ok(t, r.Take(raw(t, actsMessage(2, 1, act(api.Insert, 1, 'v', 2, 2, 0, 0, 1)))))
	ok(t, r.Take(raw(t, api.Message{Kind: api.Digest, From: 0, Epoch: 1})))
	ok(t, r.Propose())
}

// R2: what is handed to From is neither changed nor kept.
func TestFromKeepsNoLists(t *testing.T) {
	p := roomyParts(rich(t).Parts())
	same := roomyParts(rich(t).Parts())
	r := from(t, p)
	busy(t, r)
	r.Out()
	if !reflect.DeepEqual(whole(p), whole(same)) {
		t.Errorf("the parts have become\n%+v, were\n%+v", whole(p), whole(same))
	}
	r, other := from(t, p), from(t, same)
	scrawlParts(p)
	busy(t, r)
	busy(t, other)
	if !sameTold(tell(r), tell(other)) {
		t.Error("it hangs on lists that are not its own")
	}
}

// R2: the bytes that are taken are neither changed nor kept.
func TestTakeKeepsNoBytes(t *testing.T) {
	a := made(t, config(2, 40, 4, 4), 0)
	early := act(api.Insert, 1, 'y', 1, 2, 0, 1)
	bytes := roomy(raw(t, actsMessage(1, 0, early)), 0x55)
	before := slices.Clone(bytes[:cap(bytes)])
	ok(t, a.Take(bytes))
	if !slices.Equal(bytes[:cap(bytes)], before) {
		t.Errorf("the bytes have become %v", bytes[:cap(bytes)])
	}
	scrawl(bytes, 0xEE)
	wantHeld(t, a, early)
	ok(t, a.Take(raw(t, actsMessage(1, 0, act(api.Insert, 0, 'x', 1, 1)))))
	wantView(t, a, "xy")
}

// R2: what is answered is the caller's own.
func TestAnswersAreTheCallersOwn(t *testing.T) {
	r, other := rich(t), rich(t)
	for range 3 {
		scrawl(r.Elements(), api.Element{Char: -7})
		scrawl(r.Acts(), api.Act{Number: -7})
		scrawl(r.Held(), api.Act{Number: -7})
		scrawlParts(r.Parts())
		if !sameTold(tell(r), tell(other)) {
			t.Fatalf("it is\n%+v, was\n%+v", tell(r), tell(other))
		}
	}
	busy(t, r)
	busy(t, other)
	if !sameTold(tell(r), tell(other)) {
		t.Fatalf("it is\n%+v, was\n%+v", tell(r), tell(other))
	}
	parts := r.Parts()
	scrawlParcels(r.Out())
	if !sameParts(parts, other.Parts()) {
		t.Error("what was told has changed")
	}
	other.Out()
	ok(t, r.Sync(0), other.Sync(0))
	if !sameTold(tell(r), tell(other)) {
		t.Error("it hangs on what went out")
	}
}

// R2: no two parcels share their bytes, though they are one message.
func TestParcelsShareNothing(t *testing.T) {
	r := made(t, config(8, 80, 4, 4), 3)
	ok(t, r.Insert(0, "ab"), r.Propose())
	want := r.Parts().Out
	for _, out := range [][]api.Parcel{r.Parts().Out, r.Out()} {
		if len(out) != 14 {
			t.Fatalf("there are %d parcels", len(out))
		}
		for i := range out {
			for k := i + 1; k < len(out); k++ {
				if !slices.Equal(out[k].Bytes, want[k].Bytes) {
					t.Fatalf("parcel %d has become %v", k, out[k])
				}
			}
			scrawl(out[i].Bytes, 0xEE)
		}
	}
}

// R2: answers stay, whatever is done behind them.
func TestAnswersStay(t *testing.T) {
	r, other := rich(t), rich(t)
	was := tell(r)
	busy(t, r)
	commit := r.Rounds()
	commit[1].Decision = api.Commit
	ok(t, r.Take(raw(t, state(0, 1, commit))), r.Insert(0, "z"))
	out := r.Out()
	last := out[len(out)-1]
	bytes := slices.Clone(last.Bytes)
	ok(t, r.Insert(0, "y"), r.Sync(0))
	if !sameTold(was, tell(other)) || !slices.Equal(last.Bytes, bytes) {
		t.Error("an answer has changed")
	}
}

// R4: replicas know nothing of each other.
func TestReplicasAreApart(t *testing.T) {
	a, b := made(t, two, 0), made(t, two, 0)
	ok(t, a.Insert(0, "ab"), a.Propose())
	if !sameTold(tell(b), tell(made(t, two, 0))) {
		t.Errorf("it is %+v", tell(b))
	}
	c := from(t, a.Parts())
	was := tell(a)
	ok(t, c.Take(raw(t, actsMessage(1, 0, act(api.Insert, 0, 'x', 1, 1)))), c.Move(0))
	c.Out()
	if !sameTold(tell(a), was) {
		t.Errorf("it is %+v", tell(a))
	}
}

// What has gone out, and what an epoch has left behind, is not kept.
func TestForgottenIsNotKept(t *testing.T) {
	const great = 20000
	heap := func() int64 {
		var m runtime.MemStats
		runtime.GC()
		runtime.ReadMemStats(&m)
		return int64(m.HeapAlloc)
	}
	r := made(t, config(1, great, 1, 0), 0)
	before := heap()
	for range 3 {
		ok(t, r.Insert(0, strings.Repeat("x", great)), r.Erase(0, great), r.Propose())
	}
	if more := heap() - before; more > great*20 {
		t.Errorf("%d bytes more are in use", more)
	}
	wantCredit(t, r, great)
	a := made(t, config(2, 2*great, 1, 0), 0)
	ok(t, a.Insert(0, strings.Repeat("x", great)))
	before = heap()
	a.Out()
	if less := before - heap(); less < great*4 {
		t.Errorf("only %d bytes are free again", less)
	}
	runtime.KeepAlive(r)
	runtime.KeepAlive(a)
}
