package causal_test

import (
	"math"
	"slices"
	"testing"

	"barrow/api"
	"barrow/causal"
	"barrow/fault"
)

const (
	most  = math.MaxInt
	least = math.MinInt
)

// of is a clock by its first entries.
func of(entries ...int) (c api.Clock) {
	copy(c[:], entries)
	return c
}

// all is a clock of eight like entries.
func all(n int) (c api.Clock) {
	for r := range c {
		c[r] = n
	}
	return c
}

// act is one by its replica, its number and the first entries of its clock; its
// operation tells it from others.
func act(replica, number int, entries ...int) api.Act {
	op := api.Op{Kind: api.Insert, At: number, Char: 'a' + rune(replica&7), Replica: replica}
	return api.Act{Op: op, Number: number, Clock: of(entries...)}
}

// at is the same act with another operation.
func at(a api.Act, place int) api.Act {
	a.Op.At = place
	return a
}

// nameless are acts that nobody can have issued: no clock has them.
func nameless() []api.Act {
	return []api.Act{
		act(0, 0), act(7, 0), act(0, -1), act(3, least), act(0, 0, -1), act(1, -4, 0, -5),
		act(8, 1), act(9, 1), act(-1, 1), act(-8, 1), act(least, 1), act(most, 1), act(256, 1), act(1<<32, 1),
		act(8, 0), act(-1, -1), act(8, most), act(-1, least),
	}
}

func newInbox(t testing.TB, most int) *causal.Inbox {
	t.Helper()
	b, err := causal.New(most)
	if err != nil || b == nil {
		t.Fatalf("New(%d) is %v, %v", most, b, err)
	}
	return b
}

// holding is an inbox with these acts, which are not Ready at the beginning.
func holding(t testing.TB, most int, l ...api.Act) *causal.Inbox {
	t.Helper()
	b := newInbox(t, most)
	for _, a := range l {
		wantOffer(t, b, of(), a, api.Held)
	}
	return b
}

// some are acts none of which is Ready at the beginning.
func some() []api.Act {
	return []api.Act{act(0, 3, 2), act(1, 1, 1), act(7, 2, 0, 0, 0, 0, 0, 0, 0, 1), act(0, 2, 1), act(1, 2, 0, 1)}
}

// picked are those of l at the places.
func picked(l []api.Act, places ...int) []api.Act {
	var some []api.Act
	for _, i := range places {
		some = append(some, l[i])
	}
	return some
}

func wantRefusal(t testing.TB, err error, call string, at int, why error) {
	t.Helper()
	f, ok := err.(*fault.Fault)
	if !ok || *f != (fault.Fault{Layer: "causal", Call: call, At: max(at, -1), Why: why}) {
		t.Errorf("the answer is %v, not causal.%s at %d: %v", err, call, at, why)
	}
}

func wantOffer(t testing.TB, b *causal.Inbox, have api.Clock, a api.Act, want int) {
	t.Helper()
	if got := b.Offer(have, a); got != want {
		t.Errorf("Offer(%v, %v) is %d, not %d", have, a, got, want)
	}
}

func wantNext(t testing.TB, b *causal.Inbox, have api.Clock, want api.Act) {
	t.Helper()
	if got, ok := b.Next(have); !ok || got != want {
		t.Errorf("Next(%v) is %v, %v, not %v", have, got, ok, want)
	}
}

func wantNoNext(t testing.TB, b *causal.Inbox, have api.Clock) {
	t.Helper()
	if got, ok := b.Next(have); ok || got != (api.Act{}) {
		t.Errorf("Next(%v) is %v, %v", have, got, ok)
	}
}

func wantSweep(t testing.TB, b *causal.Inbox, have api.Clock, want int) {
	t.Helper()
	if got := b.Sweep(have); got != want {
		t.Errorf("Sweep(%v) is %d, not %d", have, got, want)
	}
}

// wantHeld: just these are held.
func wantHeld(t testing.TB, b *causal.Inbox, want ...api.Act) {
	t.Helper()
	if b.Len() != len(want) {
		t.Errorf("Len is %d, not %d", b.Len(), len(want))
	}
	wantActs(t, "Acts", b.Acts(), want...)
}

func wantActs(t testing.TB, what string, got []api.Act, want ...api.Act) {
	t.Helper()
	if !slices.Equal(got, want) {
		t.Errorf("%s is %v, not %v", what, got, want)
	}
}

func wantOrder(t testing.TB, l []api.Act, have api.Clock, sorted, rest []api.Act) {
	t.Helper()
	gotSorted, gotRest := causal.Order(l, have)
	wantActs(t, "sorted", gotSorted, sorted...)
	wantActs(t, "rest", gotRest, rest...)
}

// P11.1

func TestNewIsEmpty(t *testing.T) {
	for _, room := range []int{0, 1, 2, 255, api.MaxBuffer} {
		b := newInbox(t, room)
		wantHeld(t, b)
		wantNoNext(t, b, of())
		wantNoNext(t, b, all(most))
		wantSweep(t, b, all(most), 0)
		b.Clear()
		wantHeld(t, b)
	}
}

func TestNewRefuses(t *testing.T) {
	for _, room := range []int{-1, -2, -256, least, api.MaxBuffer + 1, api.MaxBuffer + 2, 4096, most} {
		b, err := causal.New(room)
		wantRefusal(t, err, "New", room, api.ErrArg)
		if b != nil {
			t.Errorf("beside %v the Inbox is %v", err, b)
		}
	}
}

// P11.2

func TestOfferOfWhatIsHad(t *testing.T) {
	for r := range api.MaxReplicas {
		var have api.Clock
		have[r] = 3
		for number := 1; number <= 3; number++ {
			b := newInbox(t, 2)
			wantOffer(t, b, have, act(r, number), api.Old)
			wantOffer(t, b, have, act(r, number, 9, 9, 9, 9, 9, 9, 9, 9), api.Old)
			wantHeld(t, b)
		}
	}
	wantOffer(t, newInbox(t, 2), all(most), act(5, most), api.Old)
}

func TestOfferOfTheNameless(t *testing.T) {
	for _, have := range []api.Clock{of(), of(3), all(-1), all(least), all(most)} {
		for _, room := range []int{0, 3} {
			b := newInbox(t, room)
			for _, a := range nameless() {
				wantOffer(t, b, have, a, api.Old)
			}
			wantHeld(t, b)
		}
	}
}

func TestOfferOfWhatIsReady(t *testing.T) {
	for r := range api.MaxReplicas {
		for number := 1; number <= 3; number++ {
			var have api.Clock
			have[r] = number - 1
			a := act(r, number)
			a.Clock[r] = number - 1
			b := newInbox(t, 2)
			wantOffer(t, b, have, a, api.Ready)
			wantOffer(t, b, have, a, api.Ready)
			wantHeld(t, b)
			wantNoNext(t, b, have)
		}
	}
	wantOffer(t, newInbox(t, 0), of(4, 2, 7), act(1, 3, 3, 2, 7), api.Ready)
	wantOffer(t, newInbox(t, 0), of(most-1), act(0, most, most-1), api.Ready)
}

func TestOfferHolds(t *testing.T) {
	for _, a := range []api.Act{
		act(0, 2, 1),         // the one ahead of it is missing
		act(1, 1, 1),         // a cause of another replica's is
		act(0, most, most-1), // all are
		act(0, 1, 1),         // its clock is wrong: it is never Ready, and held all the same
		act(0, 2),
		act(3, 7, 9, 9, 9),
		act(0, 1, 0, 0, 0, 0, 0, 0, 0, 1),
	} {
		b := newInbox(t, 2)
		wantOffer(t, b, of(), a, api.Held)
		wantHeld(t, b, a)
	}
	b := newInbox(t, 2)
	wantOffer(t, b, of(-1), act(0, 1), api.Held)
	wantOffer(t, b, all(least), act(1, 1), api.Held)
	wantHeld(t, b, act(0, 1), act(1, 1))
}

func TestOfferStandsLast(t *testing.T) {
	b := holding(t, 9, some()...)
	wantHeld(t, b, some()...)
	more := act(0, 4, 3)
	wantOffer(t, b, of(), more, api.Held)
	wantHeld(t, b, append(some(), more)...)
}

// Two acts are one by replica and number: what else they say is not looked at,
// and the one that came first stays.
func TestOfferOfWhatIsHeld(t *testing.T) {
	for i, a := range some() {
		b := holding(t, len(some()), some()...)
		other := api.Act{Op: api.Op{Kind: api.Erase, At: 99, Replica: a.Op.Replica}, Number: a.Number, Clock: all(7)}
		for _, again := range []api.Act{a, at(a, 5), other} {
			wantOffer(t, b, of(), again, api.Known)
			wantHeld(t, b, some()...)
		}
		near := some()[i]
		near.Number += 10
		wantOffer(t, b, of(), near, api.Lost)
	}
	// The two numbers of a name are not mixed up.
	b := holding(t, 9, act(1, 2, 0, 1), act(2, 1, 1))
	wantHeld(t, b, act(1, 2, 0, 1), act(2, 1, 1))
}

func TestOfferToAFullInbox(t *testing.T) {
	for room := range 5 {
		l := some()
		b := holding(t, room, l[:room]...)
		for _, a := range l[room:] {
			wantOffer(t, b, of(), a, api.Lost)
			wantOffer(t, b, of(), a, api.Lost)
		}
		for _, a := range l[:room] {
			wantOffer(t, b, of(), a, api.Known)
		}
		wantOffer(t, b, of(), act(6, 1), api.Ready)
		wantOffer(t, b, of(0, 0, 0, 0, 0, 0, 1), act(6, 1), api.Old)
		wantHeld(t, b, l[:room]...)
	}
}

func TestRoomAtTheLimit(t *testing.T) {
	b := newInbox(t, api.MaxBuffer)
	for n := range api.MaxBuffer {
		wantOffer(t, b, of(), act(n%8, 2+n/8, 1, 1, 1, 1, 1, 1, 1, 1), api.Held)
	}
	wantOffer(t, b, of(), act(0, 99, 98), api.Lost)
	if b.Len() != api.MaxBuffer || len(b.Acts()) != api.MaxBuffer {
		t.Errorf("Len is %d", b.Len())
	}
	wantSweep(t, b, of(2), 1)
	wantOffer(t, b, of(), act(0, 99, 98), api.Held)
	wantOffer(t, b, of(), act(0, 100, 99), api.Lost)
}

// Which answer comes first, where several apply.
func TestOfferInTurn(t *testing.T) {
	a := act(0, 2, 1)
	b := holding(t, 1, a)
	wantOffer(t, b, of(2), a, api.Old)   // had, and held
	wantOffer(t, b, of(1), a, api.Ready) // Ready, and held
	wantOffer(t, b, of(), a, api.Known)  // held, and no room
	wantHeld(t, b, a)
	b = newInbox(t, 0)
	wantOffer(t, b, of(2), a, api.Old)
	wantOffer(t, b, of(1), a, api.Ready)
	wantOffer(t, b, of(), a, api.Lost)
}

// What was Lost or Ready is not known when it comes again.
func TestOfferForgets(t *testing.T) {
	b := holding(t, 1, act(0, 2, 1))
	wantOffer(t, b, of(), act(1, 2, 0, 1), api.Lost)
	wantNext(t, b, of(1), act(0, 2, 1))
	wantOffer(t, b, of(), act(1, 2, 0, 1), api.Held)
	wantHeld(t, b, act(1, 2, 0, 1))
	b = newInbox(t, 1)
	wantOffer(t, b, of(1), act(0, 2, 1), api.Ready)
	wantOffer(t, b, of(), act(0, 2, 1), api.Held)
}

// P11.3

func TestNextTakesTheFirstReady(t *testing.T) {
	l := some()
	for _, x := range []struct {
		have api.Clock
		is   int
		left []int
	}{
		{of(2), 0, []int{1, 2, 3, 4}},
		{of(1), 1, []int{0, 2, 3, 4}},
		{of(1, 1), 3, []int{0, 1, 2, 4}},
		{of(0, 1), 4, []int{0, 1, 2, 3}},
		{of(9, 9, 0, 0, 0, 0, 0, 1), 2, []int{0, 1, 3, 4}},
		{of(2, 0, 0, 0, 0, 0, 0, 1), 0, []int{1, 2, 3, 4}},
	} {
		b := holding(t, 5, l...)
		wantNext(t, b, x.have, l[x.is])
		wantHeld(t, b, picked(l, x.left...)...)
		wantOffer(t, b, of(), l[x.is], api.Held)
		wantHeld(t, b, append(picked(l, x.left...), l[x.is])...)
	}
}

func TestNextOfNone(t *testing.T) {
	for _, have := range []api.Clock{of(), of(0, 2), of(3, 2), all(9), all(-1), all(most), all(least)} {
		b := holding(t, 5, some()...)
		wantNoNext(t, b, have)
		wantHeld(t, b, some()...)
	}
}

func TestNextOneByOne(t *testing.T) {
	l := some()
	b := holding(t, 5, l...)
	have := of(1)
	for _, i := range []int{1, 3, 0, 4} {
		wantNext(t, b, have, l[i])
		have[l[i].Op.Replica]++
	}
	wantNoNext(t, b, have)
	wantHeld(t, b, l[2])
}

// Acts that are never Ready stay, and are passed by.
func TestNextPassesBy(t *testing.T) {
	never, ready := act(0, 1, 1), act(1, 1, 1)
	b := holding(t, 2, never, ready)
	wantNoNext(t, b, of())
	wantNext(t, b, of(1), ready)
	wantHeld(t, b, never)
	wantNoNext(t, b, of(1))
}

func TestSweep(t *testing.T) {
	l := some()
	for _, x := range []struct {
		have api.Clock
		left []int
	}{
		{of(), []int{0, 1, 2, 3, 4}}, {all(-1), []int{0, 1, 2, 3, 4}}, {all(least), []int{0, 1, 2, 3, 4}},
		{of(1), []int{0, 1, 2, 3, 4}}, {of(2), []int{0, 1, 2, 4}}, {of(3), []int{1, 2, 4}}, {of(9), []int{1, 2, 4}},
		{of(0, 1), []int{0, 2, 3, 4}}, {of(0, 2), []int{0, 2, 3}}, {of(3, 2), []int{2}},
		{of(0, 0, 9, 9, 9, 9, 9, 1), []int{0, 1, 2, 3, 4}}, {of(0, 0, 0, 0, 0, 0, 0, 2), []int{0, 1, 3, 4}},
		{all(3), nil}, {all(most), nil},
	} {
		b := holding(t, 5, l...)
		wantSweep(t, b, x.have, len(l)-len(x.left))
		wantHeld(t, b, picked(l, x.left...)...)
		wantSweep(t, b, x.have, 0)
		for i, a := range l {
			want := api.Held
			if slices.Contains(x.left, i) {
				want = api.Known
			}
			wantOffer(t, b, of(), a, want)
		}
		wantOffer(t, b, of(), act(4, 9, 9), api.Lost)
	}
}

func TestClear(t *testing.T) {
	b := holding(t, 5, some()...)
	for range 2 {
		b.Clear()
		wantHeld(t, b)
		wantNoNext(t, b, of(1))
		wantSweep(t, b, all(9), 0)
	}
	for _, a := range some() {
		wantOffer(t, b, of(), a, api.Held)
	}
	wantHeld(t, b, some()...)
	wantOffer(t, b, of(), act(4, 9, 9), api.Lost)
}

// P11.4

func TestMissing(t *testing.T) {
	l := []api.Act{act(0, 1), act(1, 1, 1), act(0, 2, 1), act(7, 1), act(0, 3, 2), act(1, 2, 0, 1)}
	for _, x := range []struct {
		have api.Clock
		most int
		want []int
	}{
		{of(), 6, []int{0, 1, 2, 3, 4, 5}}, {of(), 7, []int{0, 1, 2, 3, 4, 5}}, {of(), most, []int{0, 1, 2, 3, 4, 5}},
		{of(), 5, []int{0, 1, 2, 3, 4}}, {of(), 1, []int{0}}, {of(), 0, nil}, {of(), -1, nil}, {of(), least, nil},
		{of(1), 2, []int{1, 2}}, {of(2), 9, []int{1, 3, 4, 5}}, {of(2, 1), 2, []int{3, 4}}, {of(3, 2), 9, []int{3}},
		{of(3, 2, 0, 0, 0, 0, 0, 1), 9, nil}, {all(most), 9, nil}, {all(least), 9, []int{0, 1, 2, 3, 4, 5}},
		{of(0, 2), 9, []int{0, 2, 3, 4}},
	} {
		wantActs(t, "Missing", causal.Missing(l, x.have, x.most), picked(l, x.want...)...)
	}
	wantActs(t, "Missing", causal.Missing(nil, of(), 9))
	wantActs(t, "Missing", causal.Missing([]api.Act{}, of(), 9))
}

// Each as often as it stands there; and what no clock has is lacking.
func TestMissingOfAnyActs(t *testing.T) {
	a, b := act(0, 1), act(1, 5, 9)
	l := []api.Act{b, a, at(a, 4), b, a}
	wantActs(t, "Missing", causal.Missing(l, of(), 9), l...)
	wantActs(t, "Missing", causal.Missing(l, of(), 4), l[:4]...)
	wantActs(t, "Missing", causal.Missing(l, of(1), 9), b, b)
	for _, have := range []api.Clock{of(), all(most)} {
		wantActs(t, "Missing", causal.Missing(nameless(), have, most), nameless()...)
	}
}

func TestOrder(t *testing.T) {
	l := []api.Act{act(0, 3, 2), act(1, 1, 1), act(0, 1), act(2, 1, 3, 1), act(0, 2, 1), act(3, 2, 0, 0, 0, 1)}
	for _, x := range []struct {
		have         api.Clock
		sorted, rest []int
	}{
		{of(), []int{2, 1, 4, 0, 3}, []int{5}},
		{of(1), []int{1, 4, 0, 3}, []int{5}},
		{of(2), []int{0, 1, 3}, []int{5}},
		{of(0, 0, 0, 1), []int{2, 1, 4, 0, 3, 5}, nil},
		{of(0, 1), []int{2, 4, 0, 3}, []int{5}},
		{of(3, 1, 1, 2), nil, nil},
		{all(most), nil, nil},
		{of(-1), nil, []int{0, 1, 2, 3, 4, 5}},
		{all(least), nil, []int{0, 1, 2, 3, 4, 5}},
	} {
		wantOrder(t, l, x.have, picked(l, x.sorted...), picked(l, x.rest...))
	}
	wantOrder(t, nil, of(), nil, nil)
	wantOrder(t, []api.Act{}, all(most), nil, nil)
}

// Of two that are one the first that is Ready, and none of the others is told.
func TestOrderOfLikeOnes(t *testing.T) {
	a, b, later := act(0, 1), act(1, 1, 1), act(2, 2, 0, 0, 1)
	wantOrder(t, []api.Act{at(a, 7), a, a}, of(), []api.Act{at(a, 7)}, nil)
	wantOrder(t, []api.Act{later, b, a, later, at(b, 9), at(later, 8)}, of(), []api.Act{a, b}, []api.Act{later, later, at(later, 8)})
	// The first one of l is not Ready by the time at which the second one is.
	slow := act(0, 1, 0, 1)
	free := act(1, 1)
	wantOrder(t, []api.Act{slow, a, free}, of(), []api.Act{a, free}, nil)
	wantOrder(t, []api.Act{slow, free, a}, of(), []api.Act{free, slow}, nil)
	wantOrder(t, []api.Act{slow, a}, of(), []api.Act{a}, nil)
	wantOrder(t, []api.Act{slow, slow}, of(), nil, []api.Act{slow, slow})
}

// What is never Ready is left, and nobody waits for it.
func TestOrderOfWhatIsNeverReady(t *testing.T) {
	for _, have := range []api.Clock{of(), all(3), all(-1), all(most)} {
		wantOrder(t, nameless(), have, nil, nameless())
	}
	for _, wrong := range []api.Act{act(0, 1, 1), act(0, 1, -1), act(0, 2), act(0, 2, 2), act(0, 1, 0, most), act(0, most, most-1)} {
		behind := act(1, 1, 5)
		free := act(2, 1)
		wantOrder(t, []api.Act{wrong, behind, free}, of(), []api.Act{free}, []api.Act{wrong, behind})
	}
	wantOrder(t, []api.Act{act(0, most, most-1), act(0, 1)}, of(most-1), []api.Act{act(0, most, most-1)}, nil)
}

// At every moment the first one of l that is Ready: what gets Ready late may
// stand ahead.
func TestOrderGoesBack(t *testing.T) {
	l := []api.Act{act(2, 1, 1, 1), act(0, 2, 1, 1), act(1, 1), act(0, 1), act(1, 2, 0, 1)}
	wantOrder(t, l, of(), picked(l, 2, 3, 0, 1, 4), nil)
	wantOrder(t, l, of(1), picked(l, 2, 0, 1, 4), nil)
}
