package replica_test

import (
	"errors"
	"slices"
	"testing"

	"barrow/api"
	"barrow/fault"
	"barrow/replica"
)

func actsMessage(from, epoch int, acts ...api.Act) api.Message {
	return api.Message{Kind: api.Acts, From: from, Epoch: epoch, Acts: acts}
}

// wantJoined: the refusal of a Take has just these parts, in this order.
func wantJoined(t testing.TB, err error, want ...error) {
	t.Helper()
	var f *fault.Fault
	if !errors.As(err, &f) || f.Layer != "replica" || f.Call != "Take" || f.At != -1 {
		t.Fatalf("it is %v", err)
	}
	parts := []error{f.Why}
	var m *fault.Many
	if _, isFault := f.Why.(*fault.Fault); !isFault && errors.As(f.Why, &m) {
		parts = m.Errs
	}
	if len(parts) != len(want) {
		t.Fatalf("it is %v, want %v", err, want)
	}
	for i, why := range want {
		// A reason of this layer is bare; that of the Log is history's own.
		link, wrapped := fault.First(parts[i])
		bare := why == api.ErrForm || why == api.ErrRoom
		if !errors.Is(parts[i], why) || bare && parts[i] != why || !bare && (!wrapped || link.Layer != "history" || link.Call != "Take") {
			t.Errorf("part %d is %v, want %v", i, parts[i], why)
		}
	}
}

func wantHeld(t testing.TB, r *replica.Replica, want ...api.Act) {
	t.Helper()
	if !slices.Equal(r.Held(), want) {
		t.Errorf("held is %v, want %v", r.Held(), want)
	}
}

// P16.10, 1
func TestTakeOfWhatIsNoMessage(t *testing.T) {
	a, b := pair(t, two)
	ok(t, a.Insert(0, "ab"))
	good := a.Out()[0].Bytes
	wantNothing(t, b, func() {
		wantRefusal(t, b.Take(nil), api.ErrShort, here("Take", -1), link("packet", "Read", 0), link("wire", "Byte", 0))
		wantRefusal(t, b.Take([]byte{9}), api.ErrForm, here("Take", -1), link("packet", "Read", 0))
		wantRefusal(t, b.Take([]byte{2, 8}), api.ErrRange, here("Take", -1), link("packet", "Read", 1), link("wire", "Number", 1))
		wantRefusal(t, b.Take(append(slices.Clone(good), 0)), api.ErrForm, here("Take", -1), link("packet", "Read", len(good)), link("wire", "End", len(good)))
		for n := range good {
			if err := b.Take(good[:n]); fault.Code(err) != api.CodeShort {
				t.Errorf("%d bytes: %v", n, err)
			}
		}
	})
	ok(t, b.Take(good))
	wantView(t, b, "ab")
}

// P16.10, 1
func TestTakeFromNobodyElse(t *testing.T) {
	r := made(t, config(3, 30, 4, 4), 1)
	wantNothing(t, r, func() {
		for _, kind := range []int{api.Acts, api.Digest, api.Reply, api.State} {
			for _, epoch := range []int{0, 1, 2, most} {
				for _, from := range []int{1, 3, 4, 7} {
					m := api.Message{Kind: kind, From: from, Epoch: epoch}
					wantRefusal(t, r.Take(raw(t, m)), api.ErrArg, here("Take", -1))
				}
			}
		}
	})
	one := made(t, config(1, 9, 1, 0), 0)
	for from := range 8 {
		wantRefusal(t, one.Take(raw(t, api.Message{Kind: api.Digest, From: from})), api.ErrArg, here("Take", -1))
	}
}

// P16.10, 2
func TestDigestIsAnswered(t *testing.T) {
	l := all(t, config(3, 60, 2, 4))
	ok(t, l[0].Insert(0, "ab"), l[1].Insert(0, "xyz"))
	carry(t, l...)
	r := l[1] // its acts: x y z, and then a b
	acts := r.Acts()
	digest := func(epoch int, clock ...int) {
		m := api.Message{Kind: api.Digest, From: 2, Epoch: epoch}
		copy(m.Clock[:], clock)
		before := tell(r)
		ok(t, r.Take(raw(t, m)))
		after := tell(r)
		after.parts.Out = nil
		if !sameTold(before, after) {
			t.Errorf("a digest makes of it %+v", after)
		}
	}
	reply := func(acts ...api.Act) {
		t.Helper()
		wantOut(t, r, []api.Message{{Kind: api.Reply, From: 1, Epoch: r.Epoch(), Acts: acts, Rounds: r.Rounds()}}, 2)
	}
	digest(0)
	reply(acts[:2]...)
	digest(0, 0, 1)
	reply(acts[1:3]...)
	digest(0, 1, 2)
	reply(acts[2], acts[4])
	digest(0, 2, 2)
	reply(acts[2])
	digest(0, 2, 3)
	reply()
	digest(0, 9, 9, 9, 9, 9, 9, 9, 9)
	reply()
	digest(1)
	reply() // one of a higher epoch lacks nothing of this one
	digest(most, 1)
	reply()
	freeze(t, r)
	lose(r)
	digest(0, 2, 2)
	reply(acts[2])
}

// P16.10, 2: one of a lower epoch lacks all of this one.
func TestDigestOfALowerEpoch(t *testing.T) {
	a, b := pair(t, config(2, 60, 3, 4))
	ok(t, a.Insert(0, "ab"))
	carry(t, a, b)
	ok(t, a.Propose())
	carry(t, a, b)
	wantEpoch(t, a, 1)
	ok(t, a.Insert(0, "wxyz"))
	lose(a)
	acts := a.Acts()
	for _, clock := range []api.Clock{{}, {2}, {9, 9}} {
		ok(t, a.Take(raw(t, api.Message{Kind: api.Digest, From: 1, Clock: clock})))
		wantOut(t, a, []api.Message{{Kind: api.Reply, Epoch: 1, Acts: acts[:3]}}, 1)
	}
	ok(t, a.Take(raw(t, api.Message{Kind: api.Digest, From: 1, Epoch: 1, Clock: api.Clock{2}})))
	wantOut(t, a, []api.Message{{Kind: api.Reply, Epoch: 1, Acts: acts[2:]}}, 1)
}

// P16.10, 3 and 4
func TestTakeOfOtherEpochs(t *testing.T) {
	p := made(t, two, 0).Parts()
	p.Epoch = 3
	for _, frozen := range []bool{false, true} {
		r := from(t, p)
		if frozen {
			freeze(t, r)
		}
		wantNothing(t, r, func() {
			for _, kind := range []int{api.Acts, api.Reply, api.State} {
				for _, epoch := range []int{0, 2, 5, 6, most} {
					m := api.Message{Kind: kind, From: 1, Epoch: epoch}
					wantRefusal(t, r.Take(raw(t, m)), api.ErrEpoch, here("Take", -1))
				}
			}
			// an act in it is not looked at, right or not
			wantRefusal(t, r.Take(raw(t, actsMessage(1, 4, act(api.Insert, 0, 'x', 1, 1)))), api.ErrEpoch, here("Take", -1))
			wantRefusal(t, r.Take(raw(t, actsMessage(1, 2, act(api.Insert, 0, 'x', 5, 1)))), api.ErrEpoch, here("Take", -1))
		})
		for _, kind := range []int{api.Reply, api.State} {
			m := api.Message{Kind: kind, From: 1, Epoch: 4}
			r := from(t, r.Parts())
			if !frozen {
				wantNothing(t, r, func() { wantRefusal(t, r.Take(raw(t, m)), api.ErrOrder, here("Take", -1)) })
				continue
			}
			ok(t, r.Take(raw(t, m)))
			wantEpoch(t, r, 4)
			wantFrozen(t, r, false)
		}
	}
}

// P16.10, 4: behind the commit the rest of the message is taken in, its acts
// and its rounds.
func TestTakeOfTheNextEpoch(t *testing.T) {
	a, b := pair(t, config(2, 60, 3, 4))
	ok(t, a.Insert(0, "abc"), a.Erase(0, 1))
	carry(t, a, b)
	ok(t, a.Propose())
	ok(t, b.Take(a.Out()[0].Bytes))
	lose(b)
	rounds := api.Rounds{round(1, api.Clock{2}, 0, api.Yes)}
	m := api.Message{Kind: api.Reply, From: 0, Epoch: 1, Rounds: rounds, Acts: []api.Act{
		act(api.Insert, 2, 'x', 0, 1), act(api.Erase, 0, 0, 0, 2, 1), act(api.Insert, 0, 'q', 1, 1),
	}}
	wantJoined(t, b.Take(raw(t, m)), api.ErrForm) // the last one isn't the site's own
	wantEpoch(t, b, 1)
	wantView(t, b, "cx")
	rounds[0].Votes[1] = api.Yes
	wantRounds(t, b, rounds)
	wantFrozen(t, b, true)
	wantOut(t, b, []api.Message{state(1, 1, rounds)}, 0)
	wantCredit(t, b, 29)
}

// P16.10, 5: an act is taken when its causes are there, once.
func TestActsWaitForTheirCauses(t *testing.T) {
	l := all(t, config(3, 90, 4, 4))
	a, b, c := l[0], l[1], l[2]
	ok(t, a.Insert(0, "a"))
	one := a.Out()
	ok(t, b.Take(one[0].Bytes), b.Insert(1, "b"))
	other := b.Out() // to 0, to 2
	ok(t, a.Take(other[0].Bytes), a.Erase(0, 1))
	third := a.Out()
	ok(t, c.Take(third[1].Bytes), c.Take(other[1].Bytes), c.Take(third[1].Bytes))
	wantHeld(t, c, act(api.Erase, 0, 0, 0, 2, 1, 1), act(api.Insert, 1, 'b', 1, 1, 1))
	wantView(t, c, "")
	ok(t, c.Take(one[1].Bytes))
	wantHeld(t, c)
	wantView(t, c, "b")
	if acts := c.Acts(); len(acts) != 3 || acts[1].Op.Char != 'b' || acts[2].Op.Kind != api.Erase {
		t.Errorf("the acts are %v", acts)
	}
	wantNothing(t, c, func() {
		ok(t, c.Take(one[1].Bytes), c.Take(other[1].Bytes), c.Take(third[1].Bytes))
	})
}

// P16.10, 5: in one message, too, the order is that of the causes.
func TestActsOutOfOrderInOneMessage(t *testing.T) {
	a := made(t, config(2, 40, 4, 4), 0)
	x, y, z := act(api.Insert, 0, 'x', 1, 1), act(api.Insert, 1, 'y', 1, 2, 0, 1), act(api.Insert, 2, 'z', 1, 3, 0, 2)
	ok(t, a.Take(raw(t, actsMessage(1, 0, z, x, y, x, z))))
	wantView(t, a, "xyz")
	wantHeld(t, a)
}

// P16.10, 5: Buffer acts wait, the next one is lost; it comes by another way.
func TestActsThatAreLost(t *testing.T) {
	for buffer := range 4 {
		a := made(t, config(2, 40, 4, buffer), 0)
		var acts []api.Act
		for n := range 6 {
			acts = append(acts, act(api.Insert, n, 'a'+rune(n), 1, n+1, 0, n))
		}
		var lost []error
		for range 5 - buffer {
			lost = append(lost, api.ErrRoom)
		}
		wantJoined(t, a.Take(raw(t, actsMessage(1, 0, acts[1:]...))), lost...)
		wantHeld(t, a, acts[1:1+buffer]...)
		ok(t, a.Take(raw(t, actsMessage(1, 0, acts[0]))))
		wantHeld(t, a)
		if n := a.Live(); n != 1+buffer {
			t.Errorf("of a buffer of %d there are %d", buffer, n)
		}
		ok(t, a.Take(raw(t, actsMessage(1, 0, acts...))))
		wantView(t, a, "abcdef")
	}
}

// P16.10, 5: ErrForm.
func TestActsThatNobodyIssued(t *testing.T) {
	a := made(t, config(2, 40, 4, 4), 0)
	ok(t, a.Insert(0, "ab"))
	lose(a)
	own := a.Acts()
	for _, x := range []api.Act{
		act(api.Insert, 0, 'x', 0, 3, 2), act(api.Insert, 0, 'x', 0, most, most-1), // not of this replica
		act(api.Insert, 0, 'x', 2, 1), act(api.Erase, 0, 0, 7, 1, 2), // of none
		act(api.Insert, 0, 'x', 1, 1, 0, 0, 1), act(api.Insert, 0, 'x', 1, 1, 0, 0, 0, 0, 0, 0, 0, 1), // with a clock of more
		act(api.Insert, 0, 'x', 0, 1, 0, 0, 1), // this replica has that number
	} {
		wantNothing(t, a, func() { wantJoined(t, a.Take(raw(t, actsMessage(1, 0, x))), api.ErrForm) })
	}
	wantNothing(t, a, func() {
		ok(t, a.Take(raw(t, actsMessage(1, 0, own...)))) // its own ones come back
		ok(t, a.Take(raw(t, actsMessage(1, 0, act(api.Erase, 7, 0, 0, 2, 9)))))
	})
}

// P16.10, 5: what the Log refuses is forgotten, and told as the Log tells it.
func TestActsThatTheLogRefuses(t *testing.T) {
	a := made(t, config(2, 40, 4, 4), 0)
	ok(t, a.Insert(0, "ab"))
	lose(a)
	bad := act(api.Insert, 3, 'x', 1, 1, 2)
	wantNothing(t, a, func() {
		err := a.Take(raw(t, actsMessage(1, 0, bad)))
		wantRefusal(t, err, api.ErrRange, here("Take", -1), link("history", "Take", 1))
		wantJoined(t, err, api.ErrRange)
		err = a.Take(raw(t, actsMessage(1, 0, act(api.Insert, 0, 0xD800, 1, 1))))
		wantRefusal(t, err, api.ErrForm, here("Take", -1), link("history", "Take", 1))
		err = a.Take(raw(t, actsMessage(1, 0, act(api.Erase, 0, 0, 1, 1))))
		wantRefusal(t, err, api.ErrRange, here("Take", -1), link("history", "Take", 1))
	})
	// all else of the message is done nevertheless, its order is kept
	err := a.Take(raw(t, actsMessage(1, 0,
		act(api.Insert, 0, 'q', 4, 1),       // ErrForm
		act(api.Erase, 9, 0, 1, 2, 0, 1),    // it waits, and is refused behind the next
		act(api.Insert, 0, 'x', 1, 1),       // "xab" or the like
		act(api.Insert, 9, 'y', 1, 2, 2, 1), // refused
		act(api.Insert, 0, 'y', 1, 2, 2, 1), // taken
		act(api.Erase, 0, 0, 1, 9, 0, 9), act(api.Erase, 0, 0, 1, 8, 0, 9), act(api.Erase, 0, 0, 1, 7, 0, 9),
		act(api.Erase, 0, 0, 1, 6, 0, 9), act(api.Erase, 0, 0, 1, 5, 0, 9), // one too many waits
	)))
	wantJoined(t, err, api.ErrForm, api.ErrRange, api.ErrRange, api.ErrRoom)
	if len(a.Held()) != 4 || a.Len() != 4 || a.Clock() != (api.Clock{2, 2}) {
		t.Errorf("it is %+v", tell(a))
	}
}

// P16.10, 5: what has waited though it can be taken comes behind the next act
// that is ready; one that is ready itself is refused as often as it is there.
func TestWaitingActThatIsRefused(t *testing.T) {
	a := made(t, config(2, 40, 4, 4), 0)
	bad := act(api.Erase, 5, 0, 1, 1, 1) // it knows an act that is still to come
	ok(t, a.Take(raw(t, actsMessage(1, 0, bad))))
	wantHeld(t, a, bad)
	ok(t, a.Insert(0, "a"))
	wantHeld(t, a, bad) // an edit asks no Inbox
	wantJoined(t, a.Take(raw(t, actsMessage(1, 0, bad))), api.ErrRange, api.ErrRange)
	wantHeld(t, a)
}

// P16.10, 5: behind all acts the Inbox is swept, of each kind but a Digest.
func TestInboxIsSwept(t *testing.T) {
	for _, kind := range []int{api.Acts, api.Reply, api.State} {
		p := made(t, config(2, 40, 4, 4), 0).Parts()
		p.Held = []api.Act{act(api.Erase, 0, 0, 0, 2, 1), act(api.Erase, 0, 0, 1, 5, 0, 4)}
		r := from(t, p)
		ok(t, r.Insert(0, "ab"))
		wantHeld(t, r, p.Held...)
		ok(t, r.Take(raw(t, api.Message{Kind: api.Digest, From: 1})))
		wantHeld(t, r, p.Held...)
		ok(t, r.Take(raw(t, api.Message{Kind: kind, From: 1})))
		wantHeld(t, r, p.Held[1])
	}
}

// P16.10, 6 and 7: of a Reply, too, the rounds are joined; all three kinds
// settle, even if an act was refused.
func TestTakeJoinsAndSettles(t *testing.T) {
	rounds := api.Rounds{1: round(1, api.Clock{0, 1}, 0, 0, api.Yes)}
	voted := api.Rounds{1: round(1, api.Clock{0, 1}, 0, api.Yes, api.Yes)}
	x, bad := act(api.Insert, 0, 'x', 1, 1), act(api.Insert, 0, 'x', 6, 1)
	a := made(t, two, 0)
	wantJoined(t, a.Take(raw(t, api.Message{Kind: api.Reply, From: 1, Acts: []api.Act{bad, x}, Rounds: rounds})), api.ErrForm)
	wantRounds(t, a, voted)
	wantOut(t, a, []api.Message{state(0, 0, voted)}, 1)
	a = made(t, two, 0)
	ok(t, a.Take(raw(t, state(1, 0, rounds))))
	wantRounds(t, a, rounds)
	wantOut(t, a, nil)
	wantJoined(t, a.Take(raw(t, actsMessage(1, 0, x, bad))), api.ErrForm)
	wantRounds(t, a, voted)
	wantOut(t, a, []api.Message{state(0, 0, voted)}, 1)
	ok(t, a.Take(raw(t, state(1, 0, rounds)))) // nothing is new
	wantOut(t, a, nil)
}

// P16.10: who is frozen takes acts and rounds as ever.
func TestTakeOfTheFrozen(t *testing.T) {
	a := made(t, two, 0)
	freeze(t, a)
	ok(t, a.Take(raw(t, actsMessage(1, 0, act(api.Insert, 0, 'x', 1, 1)))))
	wantView(t, a, "x")
	wantFrozen(t, a, true)
}

// W10: from the topmost call errors.Is finds why, and errors.As where.
func TestWhyAndWhere(t *testing.T) {
	a := made(t, two, 0)
	ok(t, a.Insert(0, "ab"))
	err := a.Take(raw(t, actsMessage(1, 0, act(api.Insert, 9, 'x', 1, 1), act(api.Insert, 0, 'x', 6, 1))))
	var f *fault.Fault
	if !errors.Is(err, api.ErrRange) || !errors.Is(err, api.ErrForm) || errors.Is(err, api.ErrRoom) || !errors.As(err, &f) || f.Layer != "replica" {
		t.Errorf("it is %v", err)
	}
	if err.Error() != "replica.Take: history.Take at 1: out of range; bad form" {
		t.Errorf("it is %q", err)
	}
}
