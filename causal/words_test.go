package causal_test

import (
	"math/rand"
	"slices"
	"testing"

	"barrow/api"
	"barrow/causal"
)

// A plainInbox does what the chapter says, sentence by sentence, on a list that
// is made anew at each step.
type plainInbox struct {
	most int
	list []api.Act
}

func plainNamed(a api.Act) bool {
	return slices.Contains([]int{0, 1, 2, 3, 4, 5, 6, 7}, a.Op.Replica) && a.Number >= 1
}

func plainHas(have api.Clock, a api.Act) bool {
	return plainNamed(a) && a.Number <= have[a.Op.Replica]
}

func plainReady(have api.Clock, a api.Act) bool {
	r := a.Op.Replica
	if !plainNamed(a) || have[r] == most || a.Number != have[r]+1 || a.Clock[r] != a.Number-1 {
		return false
	}
	for s := range have {
		if have[s] < a.Clock[s] {
			return false
		}
	}
	return true
}

func plainOne(a, b api.Act) bool {
	return a.Op.Replica == b.Op.Replica && a.Number == b.Number
}

func plainAmong(l []api.Act, a api.Act) bool {
	return slices.ContainsFunc(l, func(b api.Act) bool { return plainOne(a, b) })
}

func (b *plainInbox) offer(have api.Clock, a api.Act) int {
	if plainHas(have, a) || !plainNamed(a) {
		return api.Old
	}
	if plainReady(have, a) {
		return api.Ready
	}
	if plainAmong(b.list, a) {
		return api.Known
	}
	if len(b.list) == b.most {
		return api.Lost
	}
	b.list = slices.Concat(b.list, []api.Act{a})
	return api.Held
}

func (b *plainInbox) next(have api.Clock) (api.Act, bool) {
	for i, a := range b.list {
		if plainReady(have, a) {
			b.list = slices.Concat(b.list[:i], b.list[i+1:])
			return a, true
		}
	}
	return api.Act{}, false
}

func (b *plainInbox) sweep(have api.Clock) int {
	left := plainMissing(b.list, have)
	gone := len(b.list) - len(left)
	b.list = left
	return gone
}

// plainMissing are all that a site lacks.
func plainMissing(l []api.Act, have api.Clock) []api.Act {
	var lacked []api.Act
	for _, a := range l {
		if !plainHas(have, a) {
			lacked = append(lacked, a)
		}
	}
	return lacked
}

func plainOrder(l []api.Act, have api.Clock) (sorted, rest []api.Act) {
	now := have
	for {
		i := slices.IndexFunc(l, func(a api.Act) bool { return plainReady(now, a) })
		if i < 0 {
			break
		}
		sorted = append(sorted, l[i])
		now[l[i].Op.Replica]++
	}
	for _, a := range plainMissing(l, have) {
		if !plainAmong(sorted, a) {
			rest = append(rest, a)
		}
	}
	return sorted, rest
}

// Dice are bytes that choose; behind the last one all are 0.
type dice struct{ raw []byte }

func (d *dice) roll(n int) int {
	if len(d.raw) == 0 || n <= 1 {
		return 0
	}
	b := int(d.raw[0])
	d.raw = d.raw[1:]
	return b % n
}

// anyClock has small entries, for as many replicas as there are at play; now and
// then it has an odd one.
func (d *dice) anyClock(replicas int) (c api.Clock) {
	for r := range replicas {
		c[r] = d.roll(4)
	}
	if d.roll(12) == 0 {
		odd := []int{-1, most, least, most - 1, 5}
		c[d.roll(8)] = odd[d.roll(len(odd))]
	}
	return c
}

// anyAct can be Ready somewhere, as a rule.
func (d *dice) anyAct(replicas int) api.Act {
	r, n := d.roll(replicas), 1+d.roll(4)
	a := api.Act{Op: api.Op{Kind: api.Erase, At: d.roll(3), Replica: r}, Number: n}
	if d.roll(2) == 0 {
		a.Clock = d.anyClock(replicas)
	}
	a.Clock[r] = n - 1
	odd := []int{-1, 0, 8, most, least, 1, 2}
	switch d.roll(24) {
	case 1:
		a.Number = odd[d.roll(len(odd))]
	case 2:
		a.Op.Replica = odd[d.roll(len(odd))]
	case 3:
		a.Clock[r] = odd[d.roll(len(odd))]
	case 4: // the last one of all
		a.Number, a.Clock[r] = most, most-1
	}
	return a
}

func (d *dice) anyActs(replicas, count int) []api.Act {
	var l []api.Act
	for range count {
		l = append(l, d.anyAct(replicas))
	}
	return l
}

// wantInboxWords does any steps with an Inbox and by the words.
func wantInboxWords(t testing.TB, d *dice) {
	t.Helper()
	replicas := 1 + d.roll(8)
	room := d.roll(12)
	b, w := newInbox(t, room), &plainInbox{most: room}
	for len(d.raw) > 0 && !t.Failed() {
		have := d.anyClock(replicas)
		switch k := d.roll(32); {
		case k < 20:
			a := d.anyAct(replicas)
			wantOffer(t, b, have, a, w.offer(have, a))
		case k < 28:
			if want, ok := w.next(have); ok {
				wantNext(t, b, have, want)
			} else {
				wantNoNext(t, b, have)
			}
		case k < 31:
			wantSweep(t, b, have, w.sweep(have))
		default:
			b.Clear()
			w.list = nil
		}
		wantHeld(t, b, w.list...)
		scrawl(b.Acts())
	}
}

// wantListWords asks Missing and Order of any acts.
func wantListWords(t testing.TB, d *dice) {
	t.Helper()
	for len(d.raw) > 0 && !t.Failed() {
		replicas := 1 + d.roll(8)
		have := d.anyClock(replicas)
		l := d.anyActs(replicas, d.roll(40))
		sorted, rest := plainOrder(l, have)
		wantOrder(t, l, have, sorted, rest)
		lacked := plainMissing(l, have)
		n := d.roll(44) - 2
		wantActs(t, "Missing", causal.Missing(l, have, n), lacked[:min(max(n, 0), len(lacked))]...)
	}
}

func anyBytes(seed, count int) []byte {
	raw := make([]byte, count)
	rand.New(rand.NewSource(int64(seed))).Read(raw)
	return raw
}

// P11.2 and P11.3, whatever is offered.
func TestInboxWords(t *testing.T) {
	for seed := range 600 {
		wantInboxWords(t, &dice{anyBytes(seed, 100+4*seed)})
		if t.Failed() {
			t.Fatalf("the seed is %d", seed)
		}
	}
}

// P11.4, whatever the acts are.
func TestListWords(t *testing.T) {
	for seed := range 600 {
		wantListWords(t, &dice{anyBytes(seed, 1000)})
		if t.Failed() {
			t.Fatalf("the seed is %d", seed)
		}
	}
}

func FuzzInboxWords(f *testing.F) {
	f.Add([]byte{})
	f.Add([]byte("acts that came too early; what a site lacks"))
	f.Fuzz(func(t *testing.T, raw []byte) { wantInboxWords(t, &dice{raw}) })
}

func FuzzListWords(f *testing.F) {
	f.Add([]byte{})
	f.Add([]byte("acts that came too early; what a site lacks"))
	f.Fuzz(func(t *testing.T, raw []byte) { wantListWords(t, &dice{raw}) })
}
