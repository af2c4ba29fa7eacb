package replica_test

import (
	"reflect"
	"slices"
	"strings"
	"testing"

	"barrow/api"
	"barrow/replica"
)

// rich is a replica that has something of everything: a base, acts of its own
// and of others, one that waits, a round, edits on both sides, a cursor, and
// parcels.
func rich(t testing.TB) *replica.Replica {
	t.Helper()
	l := all(t, config(3, 61, 4, 4))
	ok(t, l[0].Insert(0, "abcd"), l[0].Erase(1, 1), l[1].Insert(0, "xyz"))
	carry(t, l...)
	ok(t, l[0].Propose())
	carry(t, l...)
	r := l[1]
	ok(t, r.Insert(2, "é世"), r.Erase(0, 1), r.Insert(1, "q"), r.Undo(), l[2].Insert(0, "u"))
	other := l[2].Out()
	ok(t, l[2].Insert(1, "v"))
	lose(l[2])
	ok(t, l[2].Insert(2, "w"))
	ok(t, r.Take(other[1].Bytes), r.Take(l[2].Out()[1].Bytes))
	ok(t, r.Move(2), r.Propose())
	p := r.Parts()
	if p.Epoch != 1 || len(p.Base) != 6 || len(p.Acts) != 6 || len(p.Held) != 1 || p.Rounds == (api.Rounds{}) ||
		len(p.Done) != 2 || len(p.Undone) != 1 || p.Cursor.Front || len(p.Out) != 10 {
		t.Fatalf("its parts are %+v", p)
	}
	return r
}

// P16.12
func TestPartsAndFrom(t *testing.T) {
	r := rich(t)
	p := r.Parts()
	again := from(t, p)
	if !sameTold(tell(r), tell(again)) {
		t.Errorf("it is\n%+v, want\n%+v", tell(again), tell(r))
	}
	if !reflect.DeepEqual(again.Parts(), p) || !reflect.DeepEqual(r.Parts(), p) {
		t.Error("the parts are others")
	}
	if out := again.Out(); len(out) != len(p.Out) || len(again.Parts().Out) != 0 {
		t.Error("what is to go out does not")
	}
	want := api.Parts{Config: two, Self: 1, Cursor: api.Anchor{Front: true}}
	if p := made(t, two, 1).Parts(); !reflect.DeepEqual(p, want) {
		t.Errorf("the parts of a new one are %+v", p)
	}
}

// P16.12: it goes on as it would have.
func TestFromGoesOn(t *testing.T) {
	r := rich(t)
	again := from(t, r.Parts())
	abort := r.Rounds()
	abort[1].Decision = api.Abort
	steps := []func(r *replica.Replica) error{
		func(r *replica.Replica) error { return r.Insert(0, "x") },
		func(r *replica.Replica) error { return r.Undo() },
		func(r *replica.Replica) error { return r.Propose() },
		func(r *replica.Replica) error { return r.Take(raw(t, state(0, 1, abort))) },
		func(r *replica.Replica) error { return r.Redo() },
		func(r *replica.Replica) error { return r.Undo() },
		func(r *replica.Replica) error { return r.Rewrite("other") },
		func(r *replica.Replica) error { return r.Insert(2, "123456789012345") },
		func(r *replica.Replica) error {
			return r.Take(raw(t, actsMessage(2, 1, act(api.Insert, 1, 'v', 2, 2, 0, 0, 1))))
		},
		func(r *replica.Replica) error { return r.Sync(2) },
		func(r *replica.Replica) error {
			return r.Take(raw(t, api.Message{Kind: api.Digest, From: 0, Epoch: 1}))
		},
		func(r *replica.Replica) error { return r.Propose() },
	}
	for i, step := range steps {
		a, b := step(r), step(again)
		if (a == nil) != (b == nil) || a != nil && a.Error() != b.Error() || !sameTold(tell(r), tell(again)) {
			t.Fatalf("step %d: %v and %v\n%+v\n%+v", i, a, b, tell(r), tell(again))
		}
		again = from(t, again.Parts())
	}
}

// spoilt is parts of a rich replica that are spoilt in one way.
type spoilt struct {
	name  string
	spoil func(p *api.Parts)
	why   error
	chain []api.Link // behind {replica From Self}
}

func wantNoFrom(t *testing.T, p api.Parts, x spoilt) {
	t.Run(x.name, func(t *testing.T) {
		x.spoil(&p)
		r, err := replica.From(p)
		wantRefusal(t, err, x.why, append([]api.Link{here("From", max(p.Self, -1))}, x.chain...)...)
		if r != nil {
			t.Errorf("there is %v beside %v", r, err)
		}
	})
}

// outOfOrder are ways to spoil parts, in the order in which they are refused.
func outOfOrder() []spoilt {
	arg := func(name string, spoil func(p *api.Parts)) spoilt { return spoilt{name, spoil, api.ErrArg, nil} }
	form := func(name string, spoil func(p *api.Parts)) spoilt { return spoilt{name, spoil, api.ErrForm, nil} }
	return []spoilt{
		arg("Replicas 0", func(p *api.Parts) { p.Config.Replicas = 0 }),
		arg("Replicas 9", func(p *api.Parts) { p.Config.Replicas = 9 }),
		arg("Model -1", func(p *api.Parts) { p.Config.Model = -1 }),
		arg("Model 65537", func(p *api.Parts) { p.Config.Model = api.MaxModel + 1 }),
		arg("Batch 0", func(p *api.Parts) { p.Config.Batch = 0 }),
		arg("Batch 257", func(p *api.Parts) { p.Config.Batch = api.MaxBatch + 1 }),
		arg("Buffer -1", func(p *api.Parts) { p.Config.Buffer = -1 }),
		arg("Buffer 257", func(p *api.Parts) { p.Config.Buffer = api.MaxBuffer + 1 }),
		arg("Self -1", func(p *api.Parts) { p.Self = -1 }),
		arg("Self 3", func(p *api.Parts) { p.Self = 3 }),
		arg("Epoch -1", func(p *api.Parts) { p.Epoch = -1 }),
		arg("Epoch 2^40+1", func(p *api.Parts) { p.Epoch = 1<<40 + 1 }),
		form("a Hides of 1", func(p *api.Parts) { p.Base[5].Hides = 1 }),
		form("a Hides of -1", func(p *api.Parts) { p.Base[5].Hides = -1 }),
		form("an ID's Epoch", func(p *api.Parts) { p.Base[5].ID.Epoch = -1 }),
		form("an ID's Replica", func(p *api.Parts) { p.Base[5].ID.Replica = -1 }),
		form("an ID's Number", func(p *api.Parts) { p.Base[5].ID.Number = least }),
		form("a long Base", func(p *api.Parts) { p.Config.Model = 5 }),
		{"a Char", func(p *api.Parts) { p.Base[4].Char = 0xD800 }, api.ErrText, []api.Link{link("history", "New", 1), link("model", "Of", 4)}},
		{"an ID twice", func(p *api.Parts) { p.Base[4].ID = p.Base[2].ID }, api.ErrTwice, []api.Link{link("history", "New", 1), link("model", "Of", 4)}},
		form("an act of 3", func(p *api.Parts) { p.Acts[5].Op.Replica = 3 }),
		form("an act of -1", func(p *api.Parts) { p.Acts[5].Op.Replica = -1 }),
		form("an act's clock", func(p *api.Parts) { p.Acts[5].Clock[3] = 1 }),
		form("an act's clock below 0", func(p *api.Parts) { p.Acts[5].Clock[0] = -1 }),
		form("an act's place", func(p *api.Parts) { p.Acts[2].Op.At = 99 }),
		form("an act's kind", func(p *api.Parts) { p.Acts[2].Op.Kind = 4 }),
		form("an act's number", func(p *api.Parts) { p.Acts[2].Number = 4 }),
		form("an act twice", func(p *api.Parts) { p.Acts[1] = p.Acts[0] }),
		form("acts in another order", func(p *api.Parts) { p.Acts[0], p.Acts[1] = p.Acts[1], p.Acts[0] }),
		form("an act of an ID that is there", func(p *api.Parts) { p.Base[0].ID = id(1, 1, 1) }),
		form("a held act of 3", func(p *api.Parts) { p.Held[0].Op.Replica = 3 }),
		form("a held act of -1", func(p *api.Parts) { p.Held[0].Op.Replica = -1 }),
		form("a held act's clock", func(p *api.Parts) { p.Held[0].Clock[3] = 1 }),
		form("a held act's clock below 0", func(p *api.Parts) { p.Held[0].Clock[0] = -1 }),
		form("a held act's place", func(p *api.Parts) { p.Held[0].Op.At = -1 }),
		form("a held act's kind", func(p *api.Parts) { p.Held[0].Op.Kind = 4 }),
		form("a held act's Char", func(p *api.Parts) { p.Held[0].Op.Char = api.MaxChar + 1 }),
		form("a held act's number", func(p *api.Parts) { p.Held[0].Number = 0 }),
		form("too many Inserts", func(p *api.Parts) { p.Config.Model = 14 }),
		form("a held act that is ready", func(p *api.Parts) { p.Held[0].Number, p.Held[0].Clock[2] = 2, 1 }),
		form("a held act that is old", func(p *api.Parts) { p.Held[0] = p.Acts[0] }),
		form("a held act twice", func(p *api.Parts) { p.Held = append(p.Held, p.Held[0]) }),
		form("a held act too many", func(p *api.Parts) { p.Config.Buffer = 0 }),
		form("a round's Number", func(p *api.Parts) { p.Rounds[2].Number = -1 }),
		form("a round of Number 0", func(p *api.Parts) { p.Rounds[7].Votes[0] = 1 }),
		form("a round's Cut", func(p *api.Parts) { p.Rounds[1].Cut[7] = -1 }),
		form("a vote", func(p *api.Parts) { p.Rounds[1].Votes[7] = 3 }),
		form("a Decision", func(p *api.Parts) { p.Rounds[1].Decision = 3 }),
		{"too many edits", func(p *api.Parts) {
			for len(p.Done)+len(p.Undone) <= api.MaxUndo {
				p.Done = append(p.Done, p.Done[0])
			}
		}, api.ErrArg, []api.Link{link("undo", "Load", 65)}},
		{"an edit of nothing", func(p *api.Parts) { p.Done[1] = nil }, api.ErrForm, []api.Link{link("undo", "Load", 1)}},
		{"a change's kind", func(p *api.Parts) { p.Undone[0][0].Kind = 4 }, api.ErrForm, []api.Link{link("undo", "Load", 2)}},
		form("a change's element", func(p *api.Parts) { p.Done[0][1].ID.Number = 77 }),
		form("an undone change's element", func(p *api.Parts) { p.Undone[0][0].ID.Epoch = 0 }),
		form("a cursor nowhere", func(p *api.Parts) { p.Cursor = api.Anchor{} }),
		form("a cursor elsewhere", func(p *api.Parts) { p.Cursor.ID.Number = 77 }),
		form("a cursor at the front with an ID", func(p *api.Parts) { p.Cursor.Front = true }),
		form("a parcel's Serial", func(p *api.Parts) { p.Out[9].Serial = 1 }),
		form("a parcel's From", func(p *api.Parts) { p.Out[9].From = 2 }),
		form("a parcel to itself", func(p *api.Parts) { p.Out[9].To = 1 }),
		form("a parcel to 3", func(p *api.Parts) { p.Out[9].To = 3 }),
		form("a parcel to -1", func(p *api.Parts) { p.Out[9].To = -1 }),
	}
}

func TestFromRefused(t *testing.T) {
	r := rich(t)
	for _, x := range outOfOrder() {
		wantNoFrom(t, r.Parts(), x)
	}
}

// Of two that apply the one that is named first is answered. (Where Self is
// spoilt it is another one's parts.)
func TestFromRefusedByTheFirst(t *testing.T) {
	r := rich(t)
	ways := slices.DeleteFunc(outOfOrder(), func(x spoilt) bool { return strings.HasPrefix(x.name, "Self") })
	for i, first := range ways {
		for _, other := range ways[i+1:] {
			both := first
			both.name = first.name + ", " + other.name
			both.spoil = func(p *api.Parts) {
				other.spoil(p)
				first.spoil(p)
			}
			wantNoFrom(t, r.Parts(), both)
		}
	}
}

// P16.12: what is at the edge, and is taken.
func TestFromAtTheEdges(t *testing.T) {
	r := rich(t)
	for name, change := range map[string]func(p *api.Parts){
		"nothing":             func(p *api.Parts) {},
		"an ID of no replica": func(p *api.Parts) { p.Base[5].ID = id(most, most, most) },
		"an ID of zeros":      func(p *api.Parts) { p.Base[5].ID = api.ID{} },
		"a full Buffer":       func(p *api.Parts) { p.Config.Buffer = 1 },
		"just the credit":     func(p *api.Parts) { p.Config.Model = 15 },
		"another Batch":       func(p *api.Parts) { p.Config.Batch = 1 },
		"a later round":       func(p *api.Parts) { p.Rounds[7] = round(most, api.Clock{7: most}, api.Commit, 2, 2, 2) },
		"64 edits": func(p *api.Parts) {
			for len(p.Done)+len(p.Undone) < api.MaxUndo {
				p.Undone = append(p.Undone, p.Done[0])
			}
		},
		"no edits":               func(p *api.Parts) { p.Done, p.Undone = nil, nil },
		"the front":              func(p *api.Parts) { p.Cursor = api.Anchor{Front: true} },
		"behind an erased one":   func(p *api.Parts) { p.Cursor.ID = p.Done[1][0].ID },
		"no parcels":             func(p *api.Parts) { p.Out = nil },
		"a parcel of no bytes":   func(p *api.Parts) { p.Out[0].Bytes = nil },
		"a parcel of any bytes":  func(p *api.Parts) { p.Out[0].Bytes = []byte("any") },
		"a held act of its own":  func(p *api.Parts) { p.Held = append(p.Held, act(api.Erase, 0, 0, 1, 9, 0, 8)) },
		"a held act that waits":  func(p *api.Parts) { p.Held[0].Clock = api.Clock{5, 5, 5} },
		"a held Char of no text": func(p *api.Parts) { p.Held[0].Op.Char = 0xD800 },
	} {
		p := r.Parts()
		change(&p)
		again, err := replica.From(p)
		if err != nil {
			t.Errorf("%s: %v", name, err)
		} else if !sameParts(again.Parts(), p) {
			t.Errorf("%s: the parts are\n%+v, want\n%+v", name, again.Parts(), p)
		}
	}
	for _, epoch := range []int{0, 1 << 40} {
		p := made(t, two, 0).Parts()
		p.Epoch = epoch
		wantEpoch(t, from(t, p), epoch)
	}
}

// P16.12: the credit of From is that of the epoch, less what was inserted.
func TestFromReckonsTheCredit(t *testing.T) {
	for base := range 9 {
		p := api.Parts{Config: two, Self: 1, Cursor: api.Anchor{Front: true}}
		for n := range base {
			p.Base = append(p.Base, api.Element{ID: id(0, 0, 50+n), Char: 'b'})
		}
		credit := (8 - base) / 2
		for n := range credit + 1 {
			wantCredit(t, from(t, p), credit-n)
			// an Insert of another one, and Erases, count for nothing
			q := p
			q.Acts = append(slices.Clone(p.Acts), act(api.Insert, 0, 'o', 0, 1), act(api.Erase, 0, 0, 0, 2, 1), act(api.Erase, 0, 0, 1, n+1, 1, n))
			wantCredit(t, from(t, q), credit-n)
			p.Acts = append(p.Acts, act(api.Insert, 0, 'x', 1, n+1, 0, n))
		}
		_, err := replica.From(p)
		wantRefusal(t, err, api.ErrForm, here("From", 1))
	}
}
