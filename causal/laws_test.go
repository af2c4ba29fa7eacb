package causal_test

import (
	"math/rand"
	"slices"
	"testing"

	"barrow/api"
	"barrow/causal"
	"barrow/clock"
	"barrow/history"
)

// A site asks the Inbox of each act that comes, as P11.5 says.
type site struct {
	t         testing.TB
	inbox     *causal.Inbox
	have      api.Clock
	delivered []api.Act
	lost      bool
	deliverTo func(a api.Act)
}

func newSite(t testing.TB, room int, have api.Clock) *site {
	return &site{t: t, inbox: newInbox(t, room), have: have, deliverTo: func(api.Act) {}}
}

// deliver: nothing twice, and causes ahead.
func (s *site) deliver(a api.Act) {
	s.t.Helper()
	if plainHas(s.have, a) || plainAmong(s.delivered, a) {
		s.t.Errorf("%v is delivered twice", a)
	}
	if !clock.Covers(s.have, a.Clock) || a.Number != s.have[a.Op.Replica]+1 {
		s.t.Errorf("%v is delivered where %v is had", a, s.have)
	}
	s.have[a.Op.Replica] = a.Number
	s.delivered = append(s.delivered, a)
	s.deliverTo(a)
}

func (s *site) take(a api.Act) {
	s.t.Helper()
	switch s.inbox.Offer(s.have, a) {
	case api.Lost:
		s.lost = true
	case api.Ready:
		s.deliver(a)
	}
	for next, ok := s.inbox.Next(s.have); ok; next, ok = s.inbox.Next(s.have) {
		s.deliver(next)
	}
}

// issued are acts of some sites that learn of each other's now and then, in the
// order in which they were issued: causes stand ahead.
func issued(rnd *rand.Rand, replicas, count int) []api.Act {
	var l []api.Act
	var knows [api.MaxReplicas]api.Clock
	for range count {
		r := rnd.Intn(replicas)
		if rnd.Intn(2) == 0 {
			for _, a := range l {
				if clock.Ready(knows[r], a) && rnd.Intn(4) > 0 {
					knows[r][a.Op.Replica]++
				}
			}
		}
		a := api.Act{Op: api.Op{Kind: api.Insert, Char: 'x', Replica: r}, Number: knows[r][r] + 1, Clock: knows[r]}
		knows[r][r]++
		l = append(l, a)
	}
	return l
}

// behind is what somebody has who had a clock, and has delivered these.
func behind(c api.Clock, l []api.Act) api.Clock {
	for _, a := range l {
		c[a.Op.Replica] = max(c[a.Op.Replica], a.Number)
	}
	return c
}

// tossed are acts as a network brings them: shuffled, some twice, some never.
func tossed(rnd *rand.Rand, l []api.Act, loses bool) []api.Act {
	var came []api.Act
	for _, a := range l {
		for range 1 + rnd.Intn(4)/2 {
			if !loses || rnd.Intn(12) > 0 {
				came = append(came, a)
			}
		}
	}
	rnd.Shuffle(len(came), func(i, j int) { came[i], came[j] = came[j], came[i] })
	return came
}

// wantAsOrder: what was delivered is, act by act, what Order can sort.
func wantAsOrder(t testing.TB, s *site, came []api.Act, begun api.Clock) {
	t.Helper()
	sorted, rest := causal.Order(came, begun)
	if len(s.delivered) != len(sorted) || s.have != behind(begun, sorted) {
		t.Errorf("%d are delivered, to %v, where Order tells %d", len(s.delivered), s.have, len(sorted))
	}
	for _, a := range sorted {
		if !slices.Contains(s.delivered, a) {
			t.Errorf("%v is not delivered", a)
		}
	}
	for _, a := range rest {
		if plainAmong(s.delivered, a) {
			t.Errorf("%v is delivered, and left by Order", a)
		}
	}
	again := newSite(t, 0, begun)
	for _, a := range sorted {
		again.take(a)
	}
	wantActs(t, "what a site without room delivers of the sorted ones", again.delivered, sorted...)
}

// P11.5, W2

func TestSitesDeliverAllThatCanBe(t *testing.T) {
	held := 0
	for seed := range int64(300) {
		rnd := rand.New(rand.NewSource(seed))
		l := issued(rnd, 1+rnd.Intn(8), 1+rnd.Intn(60))
		begun := behind(of(), l[:rnd.Intn(len(l)+1)])
		came := tossed(rnd, l, seed%2 == 0)
		s := newSite(t, api.MaxBuffer, begun)
		for _, a := range came {
			s.take(a)
			held = max(held, s.inbox.Len())
		}
		if s.lost {
			t.Errorf("an act was Lost")
		}
		wantAsOrder(t, s, came, begun)
		if seed%2 == 1 && (s.have != behind(of(), l) || s.inbox.Len() != 0) {
			t.Errorf("all came, but %v is had, and %d are held", s.have, s.inbox.Len())
		}
		wantSweep(t, s.inbox, s.have, 0)
		if t.Failed() {
			t.Fatalf("the seed is %d", seed)
		}
	}
	if held < 30 {
		t.Errorf("at most %d were held at one moment", held)
	}
}

// Any acts, if those that are one are alike.
func TestSitesDeliverWhatAnybodySays(t *testing.T) {
	delivered := 0
	for seed := range 600 {
		d := &dice{anyBytes(seed, 2000)}
		replicas := 1 + d.roll(8)
		begun := d.anyClock(replicas)
		var kinds []api.Act
		for _, a := range d.anyActs(replicas, 60) {
			if !plainAmong(kinds, a) {
				kinds = append(kinds, a)
			}
		}
		came := tossed(rand.New(rand.NewSource(int64(seed))), kinds, true)
		s := newSite(t, api.MaxBuffer, begun)
		for _, a := range came {
			s.take(a)
		}
		wantAsOrder(t, s, came, begun)
		delivered += len(s.delivered)
		if t.Failed() {
			t.Fatalf("the seed is %d", seed)
		}
	}
	if delivered < 600 {
		t.Errorf("just %d were delivered in all", delivered)
	}
}

// However little room there is, and though the like-named differ: once, and
// causes ahead.
func TestSitesWithoutRoom(t *testing.T) {
	lost := 0
	for seed := range 400 {
		d := &dice{anyBytes(seed, 2000)}
		replicas := 1 + d.roll(8)
		s := newSite(t, d.roll(4), d.anyClock(replicas))
		for _, a := range d.anyActs(replicas, 80) {
			s.take(a)
		}
		if s.lost {
			lost++
		}
		if t.Failed() {
			t.Fatalf("the seed is %d", seed)
		}
	}
	if lost < 100 {
		t.Errorf("just %d sites have Lost something", lost)
	}
}

// P11.6

func TestMissingMayBeDelivered(t *testing.T) {
	for seed := range int64(400) {
		rnd := rand.New(rand.NewSource(seed))
		all := issued(rnd, 1+rnd.Intn(8), 1+rnd.Intn(60))
		cut := rnd.Intn(len(all) + 1)
		l := all[cut:]
		have := behind(of(), all[:cut])
		for r := range have { // no clock that a site had, it may be
			have[r] += rnd.Intn(4) / 2 * rnd.Intn(4)
		}
		n := rnd.Intn(len(all) + 2)
		lacked := causal.Missing(l, have, n)
		if want := min(n, len(plainMissing(l, have))); len(lacked) != want {
			t.Errorf("Missing is %d acts, not %d", len(lacked), want)
		}
		if len(lacked) > 0 && !clock.Ready(have, lacked[0]) {
			t.Errorf("%v is not Ready where %v is had", lacked[0], have)
		}
		sorted, rest := causal.Order(lacked, have)
		wantActs(t, "sorted", sorted, lacked...)
		wantActs(t, "rest", rest)
		s := newSite(t, 0, have)
		for _, a := range lacked {
			s.take(a)
		}
		wantActs(t, "what is delivered", s.delivered, lacked...)
		if t.Failed() {
			t.Fatalf("the seed is %d", seed)
		}
	}
}

// Asking for a few at a time brings on a site that has lost everything.
func TestMissingBringsBack(t *testing.T) {
	for seed := range int64(50) {
		rnd := rand.New(rand.NewSource(seed))
		l := issued(rnd, 1+rnd.Intn(8), 1+rnd.Intn(60))
		s := newSite(t, rnd.Intn(3), of())
		batch := 1 + rnd.Intn(5)
		for range (len(l) + batch - 1) / batch {
			for _, a := range causal.Missing(l, s.have, batch) {
				s.take(a)
			}
		}
		wantActs(t, "what is delivered", s.delivered, l...)
		wantActs(t, "what is missing", causal.Missing(l, s.have, most))
	}
}

// W2: sites that deliver by their inboxes come to one model, in whatever orders
// the acts come.

type editor struct {
	*site
	log *history.Log
}

func newEditor(t *testing.T) *editor {
	t.Helper()
	log, err := history.New(0, nil)
	if err != nil {
		t.Fatal(err)
	}
	e := &editor{newSite(t, api.MaxBuffer, of()), log}
	e.deliverTo = func(a api.Act) {
		if _, err := log.Take(a); err != nil {
			t.Errorf("what is told to be delivered is refused: %v", err)
		}
	}
	return e
}

// edit issues any operation that is valid here.
func (e *editor) edit(rnd *rand.Rand, r int) {
	n := e.log.Model().Len()
	op := api.Op{Kind: api.Insert, At: rnd.Intn(n + 1), Char: 'a' + rune(rnd.Intn(26)), Replica: r}
	if n > 0 && rnd.Intn(3) == 0 {
		op = api.Op{Kind: api.Erase, At: rnd.Intn(n), Replica: r}
	}
	if _, err := e.log.Issue(op); err != nil {
		e.t.Errorf("Issue is refused: %v", err)
	}
	e.have = e.log.Clock()
}

func TestSitesComeTogether(t *testing.T) {
	for seed := range int64(60) {
		rnd := rand.New(rand.NewSource(seed))
		var editors []*editor
		for range 2 + rnd.Intn(4) {
			editors = append(editors, newEditor(t))
		}
		for range 4 {
			for r, e := range editors {
				for range rnd.Intn(5) {
					e.edit(rnd, r)
				}
			}
			for _, e := range editors {
				from := editors[rnd.Intn(len(editors))]
				for _, a := range tossed(rnd, from.log.Acts(), true) {
					e.take(a)
				}
			}
		}
		for _, e := range editors {
			for _, from := range editors {
				for _, a := range tossed(rnd, from.log.Acts(), false) {
					e.take(a)
				}
			}
		}
		first := editors[0].log
		for r, e := range editors {
			if e.log.Clock() != e.have || e.have != first.Clock() {
				t.Errorf("site %d has delivered %v, site 0 %v", r, e.have, first.Clock())
			}
			if !slices.Equal(e.log.Model().Elements(), first.Model().Elements()) {
				t.Errorf("site %d shows %q, site 0 %q", r, e.log.Model().View(), first.Model().View())
			}
		}
		if t.Failed() {
			t.Fatalf("the seed is %d", seed)
		}
	}
}

// Long lists: each act is looked at a few times, not once for every other one.

const long = 200000

func reversed(l []api.Act) []api.Act {
	back := slices.Clone(l)
	slices.Reverse(back)
	return back
}

func TestOrderOfALongList(t *testing.T) {
	var l []api.Act
	var have api.Clock
	for i := range long {
		r := i % 8
		l = append(l, api.Act{Op: api.Op{Kind: api.Erase, Replica: r}, Number: have[r] + 1, Clock: have})
		have[r]++
	}
	wantOrder(t, reversed(l), of(), l, nil)
	wantOrder(t, reversed(l[1:]), of(), nil, reversed(l[1:]))
}

// Many like-named ones, for which something is lacking all the time.
func TestOrderOfManyThatWait(t *testing.T) {
	var l []api.Act
	for range long {
		l = append(l, act(0, 1, 0, 0, 1))
	}
	for n := long; n > 0; n-- {
		l = append(l, act(1, n, 0, n-1))
	}
	wantOrder(t, l, of(), reversed(l[long:]), l[:long])
}
