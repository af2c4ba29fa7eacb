package image_test

import (
	"bytes"
	"slices"
	"testing"

	"barrow/api"
	"barrow/image"
	"barrow/replica"
)

const firstRun = "42 01 00 01 00 00 00 00 00 00 00 00 00 01 00"

// Each row of the chapter's table.
func TestRuns(t *testing.T) {
	t.Run("Save of a new one", func(t *testing.T) {
		r := made(t, config(1, 0, 1, 0), 0)
		if b := image.Save(r); !bytes.Equal(b, raw(t, firstRun)) {
			t.Errorf("% x", b)
		}
		wantForm(t, r.Parts(), raw(t, firstRun))
	})
	t.Run("Load of too little", func(t *testing.T) {
		wantWire(t, nil, "Byte", 0, api.ErrShort)
		wantWire(t, []byte{}, "Byte", 0, api.ErrShort)
		wantNoForm(t, []byte{0x43}, 0)
		wantWire(t, []byte{0x42}, "Number", 1, api.ErrShort)
	})
	t.Run("one byte more", func(t *testing.T) {
		wantWire(t, raw(t, firstRun+"00"), "End", 15, api.ErrForm)
		wantWire(t, raw(t, firstRun+"42"), "End", 15, api.ErrForm)
	})
	t.Run("nine replicas", func(t *testing.T) {
		wantNoReplica(t, raw(t, "42 09 00 01 00 00 00 00 00 00 00 00 00 01 00"), api.ErrArg, link("replica", "From", 0))
	})
	t.Run("Sum", func(t *testing.T) {
		if image.Sum(nil) != 2166136261 || image.Sum([]byte{}) != 2166136261 || image.Sum([]byte("a")) != 3826002220 {
			t.Errorf("%d, %d", image.Sum(nil), image.Sum([]byte("a")))
		}
	})
}

// Example 1, by whatever ways they have come to these Parts.
func TestExampleOfOneFormEach(t *testing.T) {
	a, b := made(t, config(2, 20, 4, 4), 0), made(t, config(2, 20, 4, 4), 0)
	ok(t, a.Insert(0, "ab"), a.Sync(1), a.Move(1))
	a.Out()
	ok(t, b.Move(0), b.Insert(0, ""), b.Insert(0, "ab"), b.Move(0), b.Move(1))
	b.Erase(0, 9)
	b.Redo()
	b.Out()
	c := from(t, a.Parts())
	for _, r := range []*replica.Replica{b, c} {
		if !same(a.Parts(), r.Parts()) || !bytes.Equal(image.Save(a), image.Save(r)) {
			t.Errorf("% x and % x", image.Save(a), image.Save(r))
		}
	}
	ok(t, c.Move(0))
	if bytes.Equal(image.Save(a), image.Save(c)) {
		t.Error("other Parts have the same bytes")
	}
}

func TestExampleOfSaveThatChangesNothing(t *testing.T) {
	r, other := rich(t), rich(t)
	first := image.Save(r)
	if !sameTold(tell(r), tell(other)) || !bytes.Equal(image.Save(r), first) {
		t.Errorf("it is\n%+v, was\n%+v", tell(r), tell(other))
	}
	if out := r.Out(); len(out) != 10 || len(r.Out()) != 0 {
		t.Errorf("there goes out %v", out)
	}
	if bytes.Equal(image.Save(r), first) {
		t.Error("what has gone out is saved")
	}
}

func TestExampleOfHides(t *testing.T) {
	p := api.Parts{Config: config(1, 9, 1, 0), Base: []api.Element{{ID: id(0, 0, 1), Char: 'a'}}, Cursor: api.Anchor{Front: true}}
	wantForm(t, p, raw(t, toBase+"01 00 00 01 61 00 00 00 00 00 01 00"))
	for _, hides := range []int{1, 2, -1} {
		wrong := p
		wrong.Base = slices.Clone(p.Base)
		wrong.Base[0].Hides = hides
		wantNoBytes(t, wrong)
	}
	r := from(t, p)
	ok(t, r.Erase(0, 1)) // that is told by the act
	again := loaded(t, image.Save(r))
	if base := again.Parts().Base; !slices.Equal(base, p.Base) || again.Live() != 0 || again.Elements()[0].Hides != 1 {
		t.Errorf("it is %+v", tell(again))
	}
}
