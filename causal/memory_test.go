package causal_test

import (
	"slices"
	"testing"

	"barrow/api"
	"barrow/causal"
)

// scrawl writes over acts, their spare room too.
func scrawl(l []api.Act) {
	l = l[:cap(l)]
	for i := range l {
		l[i] = act(6, 66, 6, 6, 6)
	}
}

// roomy is a list of these acts with spare room.
func roomy(l ...api.Act) []api.Act {
	return append(make([]api.Act, 0, len(l)+8), l...)
}

// R2: what is answered is new memory.

func TestActsAreTheCallersOwn(t *testing.T) {
	b := holding(t, 9, some()...)
	one, two := b.Acts(), b.Acts()
	scrawl(one)
	wantActs(t, "the other answer", two, some()...)
	wantHeld(t, b, some()...)
	wantOffer(t, b, of(), act(0, 9, 8), api.Held)
	wantOffer(t, b, of(), act(6, 66, 6, 6, 6), api.Held)
	wantHeld(t, b, append(some(), act(0, 9, 8), act(6, 66, 6, 6, 6))...)
	scrawl(holding(t, 0).Acts())
}

// The row may change behind an answer: that stays.
func TestActsStay(t *testing.T) {
	b := holding(t, 9, some()...)
	told := b.Acts()
	wantNext(t, b, of(1), some()[1])
	wantSweep(t, b, of(2), 1)
	wantOffer(t, b, of(), act(5, 9, 8), api.Held)
	wantActs(t, "the answer", told, some()...)
	b.Clear()
	wantOffer(t, b, of(), act(5, 9, 8), api.Held)
	wantActs(t, "the answer", told, some()...)
}

// R2: what is handed in is neither changed nor shared, and no two answers are.
func TestListsAreApart(t *testing.T) {
	mixed := []api.Act{act(1, 1, 1), act(0, 1), act(2, 3, 0, 0, 2), act(0, 2, 1), act(0, 1)}
	l := roomy(mixed...)
	spare := slices.Clone(l[:cap(l)])
	for _, have := range []api.Clock{of(), of(1), of(0, 0, 2), of(0, 0, 0, 1), all(most)} {
		sorted, rest := causal.Order(l, have)
		lacked := causal.Missing(l, have, 4)
		wantSorted, wantRest, wantLacked := slices.Clone(sorted), slices.Clone(rest), slices.Clone(lacked)
		scrawl(sorted)
		wantActs(t, "rest", rest, wantRest...)
		scrawl(rest)
		wantActs(t, "Missing", lacked, wantLacked...)
		scrawl(lacked)
		wantActs(t, "l with its spare room", l[:cap(l)], spare...)
		wantOrder(t, l, have, wantSorted, wantRest)
	}
	sorted, rest := causal.Order(l, of())
	lacked := causal.Missing(l, of(), 4)
	scrawl(l)
	wantActs(t, "sorted", sorted, picked(mixed, 1, 0, 3)...)
	wantActs(t, "rest", rest, mixed[2])
	wantActs(t, "Missing", lacked, mixed[:4]...)
}

// R4: inboxes know nothing of each other.
func TestInboxesAreApart(t *testing.T) {
	a, b := holding(t, 5, some()...), newInbox(t, 5)
	wantHeld(t, b)
	for _, x := range some() {
		wantOffer(t, b, of(), x, api.Held)
	}
	a.Clear()
	wantHeld(t, b, some()...)
	wantNext(t, b, of(1), some()[1])
	wantHeld(t, a)
	wantOffer(t, a, of(), some()[0], api.Held)
	wantOffer(t, b, of(), some()[0], api.Known)
}
