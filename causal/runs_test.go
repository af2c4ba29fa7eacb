package causal_test

import (
	"testing"

	"barrow/api"
	"barrow/causal"
)

// Each row of the chapter's table.
func TestRuns(t *testing.T) {
	for _, room := range []int{-1, 257} {
		_, err := causal.New(room)
		wantRefusal(t, err, "New", room, api.ErrArg)
	}

	b := newInbox(t, 1)
	wantOffer(t, b, of(), act(0, 2, 1, 0), api.Held)
	wantOffer(t, b, of(), act(0, 2, 1, 0), api.Known)
	wantOffer(t, b, of(), act(1, 1, 1, 0), api.Lost)
	wantOffer(t, b, of(), act(0, 1, 0, 0), api.Ready)

	wantNoNext(t, b, of())
	wantNext(t, b, of(1, 0), act(0, 2, 1, 0))
	wantHeld(t, b)

	wantOffer(t, b, of(3, 0), act(0, 3, 2, 0), api.Old)
	wantOffer(t, b, of(3, 0), act(0, 0), api.Old)
	wantOffer(t, b, of(3, 0), act(8, 1), api.Old)

	b = holding(t, 2, act(0, 2, 1), act(1, 2, 0, 1))
	wantSweep(t, b, of(2, 0), 1)
	wantHeld(t, b, act(1, 2, 0, 1))

	l := []api.Act{act(0, 1), act(1, 1), act(0, 2, 1)}
	wantActs(t, "Missing", causal.Missing(l, of(1, 0), 1), l[1])
	wantActs(t, "Missing", causal.Missing(l, of(1, 0), 9), l[1], l[2])
	wantActs(t, "Missing", causal.Missing(l, of(1, 0), 0))

	l = []api.Act{act(0, 2, 1, 0), act(0, 1, 0, 0), act(1, 2, 0, 1)}
	wantOrder(t, l, of(), picked(l, 1, 0), picked(l, 2))
}

func TestExampleNoRoomAtAll(t *testing.T) {
	b := newInbox(t, 0)
	for _, a := range append(some(), act(0, 1, 1), act(5, most, most-1)) {
		wantOffer(t, b, of(), a, api.Lost)
		wantHeld(t, b)
		wantNoNext(t, b, of(1))
	}
	wantOffer(t, b, of(), act(0, 1), api.Ready)
	wantHeld(t, b)
}

func TestExampleOfferDeliversNothing(t *testing.T) {
	b := holding(t, 2, act(0, 2, 1))
	for range 3 {
		wantOffer(t, b, of(), act(0, 1), api.Ready)
		wantNoNext(t, b, of())
		wantHeld(t, b, act(0, 2, 1))
	}
	wantNext(t, b, of(1), act(0, 2, 1))
}

func TestExampleMissingOfNoActs(t *testing.T) {
	for _, n := range []int{least, -1, 0, 1, 9, most} {
		wantActs(t, "Missing", causal.Missing(nil, of(), n))
		wantActs(t, "Missing", causal.Missing([]api.Act{}, all(9), n))
	}
}

// R1: whatever the numbers are.
func TestNoNumberPanics(t *testing.T) {
	numbers := []int{least, least + 1, -1, 0, 1, 2, 7, 8, 255, 256, 257, most - 1, most}
	var acts []api.Act
	for _, r := range numbers {
		for _, n := range numbers {
			for _, c := range numbers {
				acts = append(acts, api.Act{Op: api.Op{Kind: n, At: c, Replica: r}, Number: n, Clock: all(c)})
			}
		}
	}
	for _, n := range numbers {
		causal.New(n)
		b := newInbox(t, 20)
		for _, a := range acts {
			b.Offer(all(n), a)
		}
		for _, have := range numbers {
			b.Next(all(have))
			causal.Missing(acts, all(have), n)
		}
		b.Sweep(all(n))
		sorted, rest := causal.Order(acts, all(n))
		if len(sorted)+len(rest) > len(acts) {
			t.Errorf("of %d acts %d are sorted, %d are left", len(acts), len(sorted), len(rest))
		}
	}
}
