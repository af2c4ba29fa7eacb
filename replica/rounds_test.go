package replica_test

import (
	"slices"
	"testing"

	"barrow/api"
	"barrow/replica"
)

// state is a message State.
func state(from, epoch int, rounds api.Rounds) api.Message {
	return api.Message{Kind: api.State, From: from, Epoch: epoch, Rounds: rounds}
}

// round is a coordinator's, with the votes of the replicas from 0 on.
func round(number int, cut api.Clock, decision int, votes ...int) api.Round {
	r := api.Round{Number: number, Cut: cut, Decision: decision}
	copy(r.Votes[:], votes)
	return r
}

func wantRounds(t testing.TB, r *replica.Replica, want api.Rounds) {
	t.Helper()
	if r.Rounds() != want {
		t.Errorf("the rounds are\n%v, want\n%v", r.Rounds(), want)
	}
}

func wantFrozen(t testing.TB, r *replica.Replica, want bool) {
	t.Helper()
	if r.Frozen() != want {
		t.Errorf("Frozen is %v", r.Frozen())
	}
}

func wantEpoch(t testing.TB, r *replica.Replica, want int) {
	t.Helper()
	if r.Epoch() != want {
		t.Errorf("the epoch is %d, want %d", r.Epoch(), want)
	}
}

// P16.7
func TestPropose(t *testing.T) {
	l := all(t, config(3, 30, 4, 4))
	r := l[1]
	ok(t, r.Insert(0, "ab"))
	lose(r)
	ok(t, r.Propose())
	wantFrozen(t, r, true)
	want := api.Rounds{1: round(1, api.Clock{0, 2}, 0, 0, api.Yes)}
	wantRounds(t, r, want)
	wantOut(t, r, []api.Message{state(1, 0, want), state(1, 0, want)}, 0, 2)
	wantNothing(t, r, func() {
		wantRefusal(t, r.Propose(), api.ErrBusy, here("Propose", -1), link("flatten", "Propose", 1))
	})
}

// P16.7: an own round's Number can't go on for ever.
func TestProposeAtTheLastNumber(t *testing.T) {
	p := made(t, two, 0).Parts()
	for _, n := range []int{1 << 62, most} {
		p.Rounds = api.Rounds{round(n, api.Clock{}, api.Abort)}
		r := from(t, p)
		wantNothing(t, r, func() {
			wantRefusal(t, r.Propose(), api.ErrBusy, here("Propose", -1), link("flatten", "Propose", 0))
		})
	}
	p.Rounds = api.Rounds{round(1<<62-1, api.Clock{}, api.Abort)}
	r := from(t, p)
	ok(t, r.Propose())
	wantRounds(t, r, api.Rounds{round(1<<62, api.Clock{}, 0, api.Yes)})
}

// P16.7: who is frozen by another's round may propose its own.
func TestProposeOfTheFrozen(t *testing.T) {
	a, b := pair(t, two)
	freeze(t, a)
	ok(t, b.Take(a.Out()[0].Bytes))
	wantFrozen(t, b, true)
	lose(b)
	ok(t, b.Propose())
	want := api.Rounds{round(1, api.Clock{}, 0, api.Yes, api.Yes), round(1, api.Clock{}, 0, 0, api.Yes)}
	wantRounds(t, b, want)
	wantOut(t, b, []api.Message{state(1, 0, want)}, 0)
}

// P16.8, P16.9, of three: a vote, a vote, the decision.
func TestRoundOfThree(t *testing.T) {
	l := all(t, config(3, 31, 4, 4))
	ok(t, l[0].Insert(0, "abcd"), l[1].Insert(0, "x"))
	carry(t, l...)
	ok(t, l[0].Erase(1, 2), l[2].Move(3))
	carry(t, l...)
	cut := api.Clock{6, 1}
	ok(t, l[0].Propose())
	told := l[0].Out()
	ok(t, l[1].Take(told[0].Bytes))
	one := api.Rounds{round(1, cut, 0, api.Yes, api.Yes)}
	wantOut(t, l[1], []api.Message{state(1, 0, one), state(1, 0, one)}, 0, 2)
	ok(t, l[0].Take(raw(t, state(1, 0, one))))
	wantOut(t, l[0], nil) // there is nothing to settle
	wantRounds(t, l[0], one)
	wantEpoch(t, l[0], 0)
	ok(t, l[2].Take(told[1].Bytes))
	other := api.Rounds{round(1, cut, 0, api.Yes, 0, api.Yes)}
	wantOut(t, l[2], []api.Message{state(2, 0, other), state(2, 0, other)}, 0, 1)
	ok(t, l[0].Take(raw(t, state(2, 0, other))))
	wantEpoch(t, l[0], 1)
	wantOut(t, l[0], []api.Message{state(0, 1, api.Rounds{}), state(0, 1, api.Rounds{})}, 1, 2)
	for _, r := range l[1:] {
		wantFrozen(t, r, true)
		ok(t, r.Take(raw(t, state(0, 1, api.Rounds{}))))
		wantEpoch(t, r, 1)
		wantOut(t, r, nil) // Settle has changed nothing in the new epoch
	}
	for _, r := range l {
		wantView(t, r, "adx")
		wantFrozen(t, r, false)
		wantRounds(t, r, api.Rounds{})
		wantCredit(t, r, (31-3)/3)
		wantDepth(t, r, 0, 0)
		if r.Len() != 3 || r.Clock() != (api.Clock{}) || len(r.Acts()) != 0 || !slices.Equal(r.Elements(), l[0].Elements()) || !slices.Equal(r.Parts().Base, r.Elements()) {
			t.Errorf("it is %+v", tell(r))
		}
	}
	wantCursor(t, l[2], 1) // it stood behind the erased c
	if c := l[2].Parts().Cursor; c != (api.Anchor{ID: id(0, 0, 1)}) {
		t.Errorf("the cursor is %v", c)
	}
}

// P16.8: a site that lacks something of the cut waits, and votes when it comes.
func TestVoteWaitsForTheCut(t *testing.T) {
	a, b := pair(t, two)
	ok(t, a.Insert(0, "a"))
	late := a.Out()[0].Bytes
	freeze(t, a)
	ok(t, b.Take(a.Out()[0].Bytes))
	wantFrozen(t, b, false)
	wantOut(t, b, nil)
	ok(t, b.Take(late))
	wantFrozen(t, b, true)
	wantOut(t, b, []api.Message{state(1, 0, api.Rounds{round(1, api.Clock{1}, 0, api.Yes, api.Yes)})}, 0)
}

// P16.8: an edit settles, too: the vote that was waiting becomes a No.
func TestEditSettles(t *testing.T) {
	for name, edit := range map[string]func(r *replica.Replica) error{
		"Insert":  func(r *replica.Replica) error { return r.Insert(0, "q") },
		"Erase":   func(r *replica.Replica) error { return r.Erase(0, 1) },
		"Undo":    func(r *replica.Replica) error { return r.Undo() },
		"Redo":    func(r *replica.Replica) error { return r.Redo() },
		"Rewrite": func(r *replica.Replica) error { return r.Rewrite("b") },
	} {
		a, b := pair(t, config(2, 40, 4, 4))
		ok(t, b.Insert(0, "ab"), b.Insert(0, "c"), b.Undo())
		carry(t, a, b)
		ok(t, a.Insert(0, "z"))
		lose(a)
		freeze(t, a)
		ok(t, b.Take(a.Out()[0].Bytes))
		ok(t, b.Insert(0, ""), b.Erase(0, 0), b.Rewrite("ab"), b.Move(0)) // these settle nothing
		wantOut(t, b, nil)
		clock := b.Clock()
		if err := edit(b); err != nil {
			t.Fatal(name, err)
		}
		l, to := messages(t, b)
		if len(l) != 2 || l[0].Kind != api.Acts || to[0] != 0 || to[1] != 0 {
			t.Fatalf("%s: there goes out %v to %v", name, l, to)
		}
		want := api.Rounds{round(1, api.Clock{1, clock[1]}, 0, api.Yes, api.No)}
		if l[1].Kind != api.State || l[1].Rounds != want || b.Rounds() != want || b.Frozen() {
			t.Errorf("%s: the State is %v, want %v", name, l[1], want)
		}
	}
}

// P16.8: a No decides at once, and the round is told on.
func TestAbort(t *testing.T) {
	l := all(t, config(3, 30, 4, 4))
	freeze(t, l[0])
	told := l[0].Out()
	ok(t, l[1].Insert(0, "q"))
	lose(l[1])
	ok(t, l[1].Take(told[0].Bytes))
	wantFrozen(t, l[1], false)
	no := l[1].Out()
	ok(t, l[0].Take(no[0].Bytes))
	want := api.Rounds{round(1, api.Clock{}, api.Abort, api.Yes, api.No)}
	wantRounds(t, l[0], want)
	wantFrozen(t, l[0], false)
	wantEpoch(t, l[0], 0)
	abort := state(0, 0, want)
	wantOut(t, l[0], []api.Message{abort, abort}, 1, 2)
	ok(t, l[2].Take(told[1].Bytes))
	wantFrozen(t, l[2], true)
	lose(l[2])
	ok(t, l[2].Take(raw(t, abort)))
	wantFrozen(t, l[2], false)
	wantOut(t, l[2], nil)
	ok(t, l[2].Insert(0, "r"), l[0].Propose())
	wantRounds(t, l[0], api.Rounds{round(2, api.Clock{}, 0, api.Yes)})
}

// P16.8: a newer round of the same coordinator takes the freezing away till
// that is voted on.
func TestNewerRoundThaws(t *testing.T) {
	l := all(t, config(3, 30, 4, 4))
	freeze(t, l[0])
	ok(t, l[2].Take(l[0].Out()[1].Bytes))
	wantFrozen(t, l[2], true)
	newer := api.Rounds{round(2, api.Clock{0, 1}, 0, api.Yes)}
	ok(t, l[2].Take(raw(t, state(0, 0, newer))))
	wantFrozen(t, l[2], false)
	wantRounds(t, l[2], newer)
	ok(t, l[2].Insert(0, "r"))
}

// P16.8: a Commit that a message itself tells is taken in; as Settle has
// changed nothing, that is not told on.
func TestCommitThatIsTold(t *testing.T) {
	a, b := pair(t, two)
	ok(t, a.Insert(0, "ab"), a.Erase(0, 1))
	carry(t, a, b)
	ok(t, b.Take(raw(t, state(0, 0, api.Rounds{7: round(5, api.Clock{}, api.Commit)}))))
	wantEpoch(t, b, 1)
	wantOut(t, b, nil)
	wantView(t, b, "b")
	wantCredit(t, b, 3)
	wantRounds(t, b, api.Rounds{})
}

// P16.8: one alone commits at once; what is told of that goes to nobody.
func TestRoundOfOne(t *testing.T) {
	r := made(t, config(1, 10, 1, 0), 0)
	for epoch := range 5 {
		ok(t, r.Insert(0, "ab"), r.Erase(1, 1), r.Move(1))
		ok(t, r.Propose())
		wantEpoch(t, r, epoch+1)
		wantFrozen(t, r, false)
		wantCredit(t, r, 10-epoch-1)
		wantCursor(t, r, 1)
		wantOut(t, r, nil)
	}
	if e := r.Elements(); e[0].ID != id(4, 0, 1) || e[4].ID != id(0, 0, 1) {
		t.Errorf("the elements are %v", e)
	}
}

// P16.9: the cursor is rebased, whatever stands beside it.
func TestCommitRebasesTheCursor(t *testing.T) {
	for p := range 5 {
		for first := range 5 {
			for n := range 5 - first {
				r := made(t, config(1, 10, 1, 0), 0)
				ok(t, r.Insert(0, "abcd"), r.Move(p))
				cursor := r.Parts().Cursor
				ok(t, r.Insert(0, "x"), r.Undo(), r.Erase(first, n))
				parts := r.Parts()
				parts.Cursor = cursor // Erase and Insert have moved it
				r = from(t, parts)
				want := r.Cursor()
				ok(t, r.Propose())
				wantCursor(t, r, want)
				from(t, r.Parts())
				if r.Len() != r.Live() {
					t.Errorf("%d elements, %d live", r.Len(), r.Live())
				}
			}
		}
	}
}

// P16.9: Inbox, Desk and Stack are cleared; what is to go out is not.
func TestCommitClears(t *testing.T) {
	l := all(t, config(2, 40, 4, 4))
	a, b := l[0], l[1]
	ok(t, a.Insert(0, "abc"), a.Insert(0, "d"), a.Undo())
	carry(t, l...)
	early := act(api.Insert, 0, 'x', 1, 2, 0, 1)
	ok(t, a.Take(raw(t, api.Message{Kind: api.Acts, From: 1, Acts: []api.Act{early}})))
	if len(a.Held()) != 1 {
		t.Fatal("it doesn't wait")
	}
	ok(t, a.Propose(), a.Sync(1))
	out := a.Parts().Out
	ok(t, b.Take(out[0].Bytes), a.Take(b.Out()[0].Bytes))
	wantEpoch(t, a, 1)
	wantDepth(t, a, 0, 0)
	wantRounds(t, a, api.Rounds{})
	if len(a.Held()) != 0 || len(a.Acts()) != 0 {
		t.Errorf("held %v, acts %v", a.Held(), a.Acts())
	}
	wantRefusal(t, a.Undo(), api.ErrNone, here("Undo", -1), link("undo", "Undo", -1))
	if now := a.Out(); len(now) != 3 || !slices.Equal(now[0].Bytes, out[0].Bytes) || !slices.Equal(now[1].Bytes, out[1].Bytes) {
		t.Errorf("there goes out %v", now)
	}
	ok(t, a.Insert(0, "n"))
	if e := a.Elements()[0]; e.ID != id(1, 0, 1) || a.Parts().Done[0][0].ID != e.ID {
		t.Errorf("the new element is %v", e)
	}
}

// P16.9: a credit below 0 is 0. (Honest ones never bring about that a Model
// is longer than it may be.)
func TestCommitWithoutRoom(t *testing.T) {
	a, _ := pair(t, config(2, 2, 4, 4))
	var acts []api.Act
	for n := range 5 {
		acts = append(acts, act(api.Insert, 0, 'x', 1, n+1, 0, n))
	}
	ok(t, a.Take(raw(t, api.Message{Kind: api.Acts, From: 1, Acts: acts})))
	ok(t, a.Take(raw(t, state(1, 0, api.Rounds{1: round(1, api.Clock{}, api.Commit)}))))
	wantEpoch(t, a, 1)
	wantCredit(t, a, 0)
	wantView(t, a, "xxxxx")
	wantRefusal(t, a.Insert(0, "y"), api.ErrFull, here("Insert", 0))
	ok(t, a.Erase(0, 4))
	ok(t, a.Take(raw(t, state(1, 1, api.Rounds{1: round(1, api.Clock{}, api.Commit)}))))
	wantCredit(t, a, 0) // one is left of two, and two share it
	wantView(t, a, "x")
}

// P16.9: the credit by how much is left, for all small sessions.
func TestCreditOfAnEpoch(t *testing.T) {
	for replicas := 1; replicas <= 4; replicas++ {
		for model := range 13 {
			l := all(t, config(replicas, model, 4, 4))
			for i, r := range l {
				for range r.Credit() {
					ok(t, r.Insert(0, "x"))
				}
				if i%2 == 0 {
					ok(t, r.Erase(0, r.Live()/2))
				}
			}
			carry(t, l...)
			ok(t, l[0].Propose())
			carry(t, l...)
			for _, r := range l {
				wantEpoch(t, r, 1)
				wantCredit(t, r, (model-r.Len())/replicas)
			}
		}
	}
}
