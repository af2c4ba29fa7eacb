package image_test

import (
	"bytes"
	"reflect"
	"slices"
	"testing"

	"barrow/api"
	"barrow/image"
)

// scrawl writes over a list, its spare room too.
func scrawl[E any](l []E, with E) {
	l = l[:cap(l)]
	for i := range l {
		l[i] = with
	}
}

// roomy is a list with spare room in which there stands something.
func roomy[E any](l []E, spare E) []E {
	out := make([]E, len(l), len(l)+3)
	copy(out, l)
	scrawl(out[len(l):], spare)
	return out
}

func roomyEdits(l [][]api.Change) [][]api.Change {
	var out [][]api.Change
	for _, e := range l {
		out = append(out, roomy(e, change(5, id(5, 5, 5))))
	}
	return roomy(out, []api.Change{change(6, id(6, 6, 6))})
}

func roomyParts(p api.Parts) api.Parts {
	p.Base = roomy(p.Base, api.Element{Char: 'R'})
	p.Acts = roomy(p.Acts, act(9, 9, 9, 9, 9))
	p.Held = roomy(p.Held, act(8, 8, 8, 8, 8))
	p.Done, p.Undone = roomyEdits(p.Done), roomyEdits(p.Undone)
	for i := range p.Out {
		p.Out[i].Bytes = roomy(p.Out[i].Bytes, 0xDD)
	}
	p.Out = roomy(p.Out, api.Parcel{Serial: 4})
	return p
}

// whole is parts with their spare room.
func whole(p api.Parts) api.Parts {
	p.Base, p.Acts, p.Held = p.Base[:cap(p.Base)], p.Acts[:cap(p.Acts)], p.Held[:cap(p.Held)]
	edits := func(l [][]api.Change) [][]api.Change {
		l = slices.Clone(l[:cap(l)])
		for i := range l {
			l[i] = l[i][:cap(l[i])]
		}
		return l
	}
	p.Done, p.Undone = edits(p.Done), edits(p.Undone)
	p.Out = slices.Clone(p.Out[:cap(p.Out)])
	for i := range p.Out {
		p.Out[i].Bytes = p.Out[i].Bytes[:cap(p.Out[i].Bytes)]
	}
	return p
}

// R2: parts that are handed in are not changed, nor kept.
func TestBytesLeavesTheParts(t *testing.T) {
	p, was := roomyParts(full()), roomyParts(full())
	b, err := image.Bytes(p)
	ok(t, err)
	if !reflect.DeepEqual(whole(p), whole(was)) {
		t.Errorf("the parts have become\n%+v, were\n%+v", whole(p), whole(was))
	}
	scrawl(b, 0xEE)
	again, err := image.Bytes(p)
	ok(t, err)
	if !reflect.DeepEqual(whole(p), whole(was)) || !bytes.Equal(again, raw(t, fullDigits)) {
		t.Error("the bytes are not the caller's own")
	}
	p.Epoch = -1
	was.Epoch = -1
	wantNoBytes(t, p)
	if !reflect.DeepEqual(whole(p), whole(was)) {
		t.Errorf("what was refused has become\n%+v", whole(p))
	}
}

// R2: bytes that are handed in are not changed, nor kept.
func TestBytesAreLeft(t *testing.T) {
	b := roomy(raw(t, fullDigits), 0x55)
	was := slices.Clone(b[:cap(b)])
	p, err := image.Parts(b)
	ok(t, err)
	r := loaded(t, b)
	image.Sum(b)
	image.Load(b[:20])
	image.Parts(b[:len(b)+1])
	if !bytes.Equal(b[:cap(b)], was) {
		t.Errorf("% x has become % x", was, b[:cap(b)])
	}
	scrawl(b, 0xEE)
	if !same(p, full()) || !same(r.Parts(), full()) {
		t.Error("what was read hangs on the bytes")
	}
}

// R2: no two lists of one answer share memory, their spare room too.
func TestPartsShareNothing(t *testing.T) {
	read := func() api.Parts {
		p := full()
		p.Out = append(p.Out, api.Parcel{From: 1, Bytes: []byte("cd")}, api.Parcel{From: 1, Bytes: []byte("efg")})
		b, err := image.Bytes(p)
		ok(t, err)
		p, err = image.Parts(b)
		ok(t, err)
		return p
	}
	type parts = *api.Parts
	for i, list := range []struct{ scrawl, forget func(p parts) }{
		{func(p parts) { scrawl(p.Base, api.Element{Char: -7}) }, func(p parts) { p.Base = nil }},
		{func(p parts) { scrawl(p.Acts, api.Act{Number: -7}) }, func(p parts) { p.Acts = nil }},
		{func(p parts) { scrawl(p.Held, api.Act{Number: -7}) }, func(p parts) { p.Held = nil }},
		{func(p parts) { scrawl(p.Done[0], change(-7, api.ID{})) }, func(p parts) { p.Done[0] = nil }},
		{func(p parts) { scrawl(p.Done[1], change(-7, api.ID{})) }, func(p parts) { p.Done[1] = nil }},
		{func(p parts) { scrawl(p.Done, nil) }, func(p parts) { p.Done = nil }},
		{func(p parts) { scrawl(p.Undone[0], change(-7, api.ID{})) }, func(p parts) { p.Undone[0] = nil }},
		{func(p parts) { scrawl(p.Undone, nil) }, func(p parts) { p.Undone = nil }},
		{func(p parts) { scrawl(p.Out[0].Bytes, 0xEE) }, func(p parts) { p.Out[0].Bytes = nil }},
		{func(p parts) { scrawl(p.Out[2].Bytes, 0xEE) }, func(p parts) { p.Out[2].Bytes = nil }},
		{func(p parts) { scrawl(p.Out, api.Parcel{Serial: -7}) }, func(p parts) { p.Out = nil }},
	} {
		p, want := read(), read()
		list.scrawl(&p)
		list.forget(&p)
		list.forget(&want)
		if !same(p, want) {
			t.Errorf("list %d: all else has become\n%+v, was\n%+v", i, p, want)
		}
	}
}

// R2: no two answers share memory, nor does one with the replica.
func TestSavedBytesAreTheCallersOwn(t *testing.T) {
	r := rich(t)
	want := plainBytes(r.Parts())
	for range 3 {
		a, b := image.Save(r), image.Save(r)
		scrawl(a, 0xEE)
		if !bytes.Equal(b, want) || !bytes.Equal(image.Save(r), want) {
			t.Fatalf("it is % x, want % x", b, want)
		}
	}
	b := image.Save(r)
	ok(t, r.Move(0), r.Sync(0))
	r.Out()
	if !bytes.Equal(b, want) {
		t.Errorf("it has become % x", b)
	}
}

// R4: replicas that were loaded of the same bytes know nothing of each other.
func TestLoadedReplicasAreApart(t *testing.T) {
	b := image.Save(rich(t))
	one, other := loaded(t, b), loaded(t, b)
	was := tell(other)
	abort := one.Rounds()
	abort[1].Decision = api.Abort
	ok(t, one.Take(message(t, api.Message{Kind: api.State, Epoch: 1, Rounds: abort})), one.Undo(), one.Undo(), one.Insert(0, "zz"), one.Move(1), one.Sync(0))
	one.Out()
	if !sameTold(tell(other), was) || !bytes.Equal(image.Save(other), b) {
		t.Errorf("it is\n%+v, was\n%+v", tell(other), was)
	}
}
