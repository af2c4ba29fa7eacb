package bag_test

import (
	"math"
	"math/rand"
	"testing"

	"barrow/api"
	"barrow/bag"
)

// A session plays one bag and its plain reading side by side, by numbers that it
// is given, and keeps what was ever sent.
type session struct {
	t        testing.TB
	below    func(n int) int // a number from 0 to n - 1
	bag      *bag.Bag
	plain    *plainBag
	fromNew  bool
	sent     map[int]api.Parcel
	doubled  map[int]int
	arrivals map[int]int
}

func newSession(t testing.TB, below func(n int) int, most int) *session {
	return &session{t: t, below: below, bag: newBag(t, most), plain: &plainBag{most: most, next: 1},
		fromNew: true, sent: map[int]api.Parcel{}, doubled: map[int]int{}, arrivals: map[int]int{}}
}

func (s *session) wantSame(err error, call string, at int, why error) {
	s.t.Helper()
	if why == nil {
		wantOK(s.t, err)
		return
	}
	wantRefusal(s.t, err, call, at, why)
}

// place is one of the row mostly.
func (s *session) place() int {
	if s.below(8) == 0 {
		edges := []int{-1, s.plain.most, math.MinInt, math.MaxInt}
		return edges[s.below(len(edges))]
	}
	return s.below(len(s.plain.list) + 1)
}

// end is a replica mostly.
func (s *session) end() int {
	if s.below(16) == 0 {
		edges := []int{-1, 8, math.MinInt, math.MaxInt}
		return edges[s.below(len(edges))]
	}
	return s.below(api.MaxReplicas)
}

func (s *session) send() {
	from, to := s.end(), s.end()
	raw := roomy("parcel "[:s.below(8)])
	serial, why := s.plain.send(from, to, raw)
	got, err := s.bag.Send(from, to, raw)
	s.wantSame(err, "Send", to, why)
	if got != serial {
		s.t.Errorf("the Serial is %d, not %d", got, serial)
	}
	if why == nil {
		s.sent[serial] = parcel(serial, from, to, string(raw))
	}
	scrawl(raw)
}

func (s *session) look() {
	i := s.place()
	p, err := s.bag.Look(i)
	if !s.plain.inRange(i) {
		wantNoParcel(s.t, p, err, "Look", i)
		return
	}
	wantParcel(s.t, p, err, s.plain.list[i])
	scrawl(p.Bytes)
}

func (s *session) deliver() {
	i := s.place()
	want, why := s.plain.deliver(i)
	p, err := s.bag.Deliver(i)
	s.wantSame(err, "Deliver", i, why)
	if !same(p, want) {
		s.t.Errorf("%v arrives, not %v", p, want)
	}
	if err == nil {
		s.arrive(p)
	}
	scrawl(p.Bytes)
}

// arrive: what arrives was sent, and not too often.
func (s *session) arrive(p api.Parcel) {
	s.arrivals[p.Serial]++
	if !s.fromNew {
		return
	}
	was, ok := s.sent[p.Serial]
	if !ok || !same(p, was) {
		s.t.Errorf("%v arrives, %v was sent", p, was)
	}
	if s.arrivals[p.Serial] > 1+s.doubled[p.Serial] {
		s.t.Errorf("%v arrives %d times, doubled %d times", p, s.arrivals[p.Serial], s.doubled[p.Serial])
	}
}

func (s *session) drop() {
	i := s.place()
	s.wantSame(s.bag.Drop(i), "Drop", i, s.plain.drop(i))
}

func (s *session) double() {
	i := s.place()
	why := s.plain.double(i)
	s.wantSame(s.bag.Double(i), "Double", i, why)
	if why == nil {
		s.doubled[s.plain.list[i].Serial]++
	}
}

func (s *session) swap() {
	i, j := s.place(), s.place()
	at, why := s.plain.swap(i, j)
	s.wantSame(s.bag.Swap(i, j), "Swap", at, why)
}

func (s *session) clear() {
	s.bag.Clear()
	s.plain.clear()
}

// reload goes on with a bag of the same parcels, made by Load; one in a few is
// spoilt first.
func (s *session) reload() {
	l := s.bag.All()
	most := s.plain.most
	if s.below(2) == 0 {
		most = []int{-1, 0, 1, 2, api.MaxBag, api.MaxBag + 1}[s.below(6)]
	}
	if len(l) > 0 && s.below(2) == 0 {
		p := &l[s.below(len(l))]
		*[]*int{&p.Serial, &p.From, &p.To}[s.below(3)] = []int{-1, 0, 7, 8, 1 << 62, 1<<62 + 1}[s.below(6)]
	}
	plain, at, why := plainLoad(most, l)
	for i := range l {
		l[i].Bytes = roomy(string(l[i].Bytes))
	}
	b, err := bag.Load(most, l)
	s.wantSame(err, "Load", at, why)
	if (b == nil) != (why != nil) {
		s.t.Errorf("Load's Bag is %v beside %v", b, err)
	}
	if b == nil || plain == nil {
		return
	}
	// plainLoad's list has the bytes that the parcels had ahead of this.
	scrawlAll(l)
	s.bag, s.plain, s.fromNew = b, plain, false
}

func (s *session) step() {
	switch n := s.below(64); {
	case n < 24:
		s.send()
	case n < 34:
		s.deliver()
	case n < 40:
		s.drop()
	case n < 48:
		s.double()
	case n < 56:
		s.swap()
	case n < 62:
		s.look()
	case n == 62:
		s.clear()
	default:
		s.reload()
	}
	s.check()
}

// check: each call tells what the plain reading tells, and the sum is right.
func (s *session) check() {
	s.t.Helper()
	wantRow(s.t, s.bag, s.plain.list...)
	wantCounts(s.t, s.bag, s.plain.sent, s.plain.arrived, s.plain.dropped, s.plain.doubled)
	sent, arrived, dropped, doubled := s.bag.Counts()
	if s.fromNew && sent != arrived+dropped+s.bag.Len()-doubled {
		s.t.Errorf("%d sent, %d arrived, %d dropped, %d doubled, and %d are left", sent, arrived, dropped, doubled, s.bag.Len())
	}
	scrawlAll(s.bag.All())
}

// P10.1 to P10.5

func TestSessionsByTheWords(t *testing.T) {
	for seed := range int64(300) {
		rnd := rand.New(rand.NewSource(seed))
		s := newSession(t, rnd.Intn, []int{0, 1, 2, 3, 8, 20}[seed%6])
		for range 120 {
			s.step()
		}
		if t.Failed() {
			t.Fatalf("the seed is %d", seed)
		}
	}
}

// Bags that came from New, and are never loaded, all the way.
func TestSumOfLongSessions(t *testing.T) {
	for seed := range int64(20) {
		rnd := rand.New(rand.NewSource(seed))
		s := newSession(t, rnd.Intn, 4+rnd.Intn(12))
		steps := []func(){s.send, s.send, s.send, s.deliver, s.deliver, s.drop, s.double, s.double, s.swap}
		for range 1500 {
			steps[rnd.Intn(len(steps))]()
			s.check()
		}
		sent, arrived, dropped, doubled := s.bag.Counts()
		if min(sent, arrived, dropped, doubled) < 50 {
			t.Errorf("%d, %d, %d, %d: too few of one sort", sent, arrived, dropped, doubled)
		}
		s.clear()
		s.check()
		if t.Failed() {
			t.Fatalf("the seed is %d", seed)
		}
	}
}

// What was sent arrives in the order in which it was sent, if nobody interferes.
func TestFirstInFirstOut(t *testing.T) {
	b := newBag(t, api.MaxBag)
	for n := range api.MaxBag {
		wantSent(t, b, n%7, 7, string(rune('a'+n%26)), n+1)
	}
	for n := range api.MaxBag {
		p, err := b.Deliver(0)
		wantParcel(t, p, err, parcel(n+1, n%7, 7, string(rune('a'+n%26))))
	}
	wantCounts(t, b, api.MaxBag, api.MaxBag, 0, 0)
}

func FuzzSession(f *testing.F) {
	f.Add(3, []byte{0, 1, 2, 3, 0, 2, 1, 3, 40, 1, 1, 60})
	f.Add(0, []byte{})
	f.Add(8, []byte("some steps of a session, as they come"))
	f.Fuzz(func(t *testing.T, most int, raw []byte) {
		if most < 0 || most > api.MaxBag {
			return
		}
		below := func(n int) int {
			if len(raw) == 0 {
				return 0
			}
			x := int(raw[0])
			raw = raw[1:]
			return x % n
		}
		s := newSession(t, below, most)
		for len(raw) > 0 {
			s.step()
		}
	})
}
