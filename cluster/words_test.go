package cluster_test

import (
	"bytes"
	"math/rand"
	"slices"
	"testing"

	"barrow/api"
	"barrow/bag"
	"barrow/cluster"
	"barrow/fault"
	"barrow/flatten"
	"barrow/image"
	"barrow/packet"
	"barrow/replica"
	"barrow/script"
)

// made is a round or an act that was begun by a step.
type made struct{ epoch, by, number int }

// A reading plays a session as the chapter's words say, one by one.
type reading struct {
	t      testing.TB
	l      []*replica.Replica
	way    *bag.Bag
	rounds []made
	acts   []made // its numbers go from 1 on, for each replica and epoch
}

func newReading(t testing.TB, c api.Config) *reading {
	x := &reading{t: t}
	for self := range c.Replicas {
		r, err := replica.New(c, self)
		ok(t, err)
		x.l = append(x.l, r)
	}
	x.way, _ = bag.New(4096)
	return x
}

// fold is the remainder that is 0 or more.
func fold(n, most int) int {
	if most < 1 {
		return 0
	}
	return (n%most + most) % most
}

// do is P19.2's table.
func (x *reading) do(s api.Step) error {
	n := len(x.l)
	self := fold(s.A, n)
	r := x.l[self]
	gap := fold(s.B, r.Live()+1)
	place := fold(s.A+256*s.B, x.way.Len())
	switch script.Name(s.Kind) {
	case "insert":
		return r.Insert(gap, s.Text)
	case "erase":
		return r.Erase(gap, fold(s.C, r.Live()-gap+1))
	case "undo":
		return r.Undo()
	case "redo":
		return r.Redo()
	case "rewrite":
		return r.Rewrite(s.Text)
	case "cursor":
		return r.Move(gap)
	case "propose":
		next := made{r.Epoch(), self, r.Rounds()[self].Number + 1}
		err := r.Propose()
		if err == nil {
			x.rounds = append(x.rounds, next)
		}
		return err
	case "sync":
		var others []int
		for i := range n {
			if i != self {
				others = append(others, i)
			}
		}
		if len(others) == 0 {
			return api.ErrNone
		}
		return r.Sync(others[fold(s.B, len(others))])
	case "fair":
		x.fair()
		return nil
	case "reload":
		loaded, err := image.Load(image.Save(r))
		if err == nil {
			x.l[self] = loaded
		}
		return err
	case "deliver", "drop", "double", "swap":
		if x.way.Len() == 0 {
			return api.ErrNone
		}
	}
	switch script.Name(s.Kind) {
	case "deliver":
		p, err := x.way.Deliver(place)
		ok(x.t, err)
		if p.To >= n {
			return api.ErrNone
		}
		return x.l[p.To].Take(p.Bytes)
	case "drop":
		return x.way.Drop(place)
	case "double":
		return x.way.Double(place)
	case "swap":
		return x.way.Swap(fold(s.A, x.way.Len()), fold(s.B, x.way.Len()))
	}
	return api.ErrArg
}

// issued is how many acts a replica has issued behind a moment. Where its
// epoch has ended, the message that tells of them is left.
func issued(t testing.TB, before api.Parts, r *replica.Replica) int {
	after := r.Parts()
	if after.Epoch == before.Epoch {
		return len(after.Acts) - len(before.Acts)
	}
	for _, p := range after.Out[len(before.Out):] {
		m, err := packet.Read(p.Bytes)
		ok(t, err)
		if m.Kind == api.Acts {
			return len(m.Acts)
		}
	}
	return 0
}

func (x *reading) step(s api.Step) error {
	r := x.l[fold(s.A, len(x.l))]
	before := r.Parts()
	err := x.do(s)
	if s.Kind >= api.StepInsert && s.Kind <= api.StepRewrite {
		for range issued(x.t, before, r) {
			x.acts = append(x.acts, made{before.Epoch, r.Self(), x.issued(before.Epoch, r.Self()) + 1})
		}
	}
	for _, r := range x.l {
		x.send(r.Out())
	}
	return fault.New("cluster", "Step", s.Kind, err)
}

func (x *reading) send(l []api.Parcel) {
	for _, p := range l {
		x.way.Send(p.From, p.To, p.Bytes)
	}
}

func (x *reading) fair() {
	rest := make([][]api.Parcel, len(x.l))
	var digests, replies []api.Parcel
	for i, r := range x.l {
		rest[i] = r.Out()
		for to := range x.l {
			if i != to {
				ok(x.t, r.Sync(to))
			}
		}
		digests = append(digests, r.Out()...)
	}
	for _, p := range digests {
		if packet.Kind(p.Bytes) != api.Digest {
			x.t.Fatalf("%v is no digest", p)
		}
		ok(x.t, x.l[p.To].Take(p.Bytes))
		replies = append(replies, x.l[p.To].Out()...)
	}
	for _, p := range replies {
		if packet.Kind(p.Bytes) != api.Reply {
			x.t.Fatalf("%v is no reply", p)
		}
		x.l[p.To].Take(p.Bytes)
	}
	for i, r := range x.l {
		x.send(append(rest[i], r.Out()...))
	}
}

func (x *reading) issued(epoch, by int) (n int) {
	for _, a := range x.acts {
		if a.epoch == epoch && a.by == by {
			n++
		}
	}
	return n
}

// load is P19.5.
func (x *reading) load() (load api.Load) {
	for _, r := range x.l {
		for _, a := range x.acts {
			if a.epoch > r.Epoch() || a.epoch == r.Epoch() && a.number > r.Clock()[a.by] {
				load.Acts++
			}
		}
		for _, p := range x.rounds {
			theirs := x.l[p.by].Rounds()[p.by]
			if x.l[p.by].Epoch() > p.epoch {
				theirs = api.Round{Number: most}
			}
			if p.epoch > r.Epoch() {
				load.Stages += 3
			} else if p.epoch == r.Epoch() {
				load.Stages += flatten.Stage(r.Rounds()[p.by], theirs, p.number, r.Self())
			}
		}
	}
	return load
}

func (x *reading) even() bool {
	for _, a := range x.l {
		for _, b := range x.l {
			if a.Epoch() != b.Epoch() || a.Clock() != b.Clock() || !slices.Equal(a.Elements(), b.Elements()) {
				return false
			}
		}
	}
	return true
}

func (x *reading) tell() (w told) {
	for i, r := range x.l {
		w.images = append(w.images, image.Save(r))
		for epoch := range w.issued {
			w.issued[epoch][i] = x.issued(epoch, i)
		}
	}
	w.parcels, w.load, w.even = x.way.All(), x.load(), x.even()
	w.counts[0], w.counts[1], w.counts[2], w.counts[3] = x.way.Counts()
	return w
}

// A pair is a session, and a reading of which the same was made.
type pair struct {
	t     testing.TB
	below func(n int) int // a number from 0 to n - 1
	c     *cluster.Cluster
	x     *reading
}

func newPair(t testing.TB, below func(n int) int) *pair {
	given := config(1+below(4), below(30), 1+below(3), below(4))
	return &pair{t, below, newCluster(t, given), newReading(t, given)}
}

func (p *pair) wantSame() {
	p.t.Helper()
	if got, want := tell(p.c), p.x.tell(); !sameTold(got, want) {
		p.t.Fatalf("told is\n%+v, want\n%+v", got, want)
	}
}

func wantSameRefusal(t testing.TB, got, want error) {
	t.Helper()
	if (got == nil) != (want == nil) || got != nil && got.Error() != want.Error() ||
		!slices.Equal(fault.Chain(got), fault.Chain(want)) || !slices.Equal(fault.Codes(got), fault.Codes(want)) {
		t.Fatalf("refused is %v, want %v", got, want)
	}
}

// number is a small one, or any.
func (p *pair) number() int {
	switch p.below(8) {
	case 0:
		return []int{least, least + 1, most, most - 1, -1, -2, -256, 1 << 62}[p.below(8)]
	case 1:
		return p.below(256)
	}
	return p.below(6)
}

func (p *pair) text() string {
	l := []string{"", "a", "ab", "é世", "\n", "abc", "bca", "\xff", "a\xff"}
	return l[p.below(len(l))]
}

// step does one step of any kind at both.
func (p *pair) step() {
	kinds := []int{0, 0, 0, 1, 1, 2, 2, 3, 4, 4, 5, 6, 7, 8, 8, 8, 8, 8, 8, 8, 9, 10, 11, 11, 12, 13, 13, 14, -1, 99}
	s := api.Step{Kind: kinds[p.below(len(kinds))], A: p.number(), B: p.number(), C: p.number(), Text: p.text()}
	wantSameRefusal(p.t, p.c.Step(s), p.x.step(s))
}

// run plays a script at both.
func (p *pair) run() {
	raw := make([]byte, p.below(30))
	for i := range raw {
		raw[i] = byte(p.below(256))
	}
	n, err := p.c.Run(raw)
	var refused []error
	steps := script.Read(raw)
	for i, s := range steps {
		refused = append(refused, fault.New("cluster", "Run", i, p.x.step(s)))
	}
	if n != len(steps) {
		p.t.Fatalf("%d steps were played, not %d", n, len(steps))
	}
	wantSameRefusal(p.t, err, fault.Join(refused...))
}

// fairs plays a fair round or some at both.
func (p *pair) fairs() {
	if p.below(2) == 0 {
		p.c.Fair()
		p.x.fair()
		return
	}
	most, want := p.below(5)-1, 0
	for want < most && p.x.load() != (api.Load{}) {
		p.x.fair()
		want++
	}
	if got := p.c.Settle(most); got != want {
		p.t.Fatalf("Settle(%d) has played %d rounds, not %d", most, got, want)
	}
}

// beside plays the same at a replica or the Bag of both.
func (p *pair) beside() {
	i, b, text := p.below(len(p.x.l)), p.below(4), p.text()
	raw := p.message()
	calls := []func(r *replica.Replica, way *bag.Bag) error{
		func(r *replica.Replica, way *bag.Bag) error { return r.Insert(min(b, r.Live()), text) },
		func(r *replica.Replica, way *bag.Bag) error { return r.Undo() },
		func(r *replica.Replica, way *bag.Bag) error { return r.Propose() },
		func(r *replica.Replica, way *bag.Bag) error { return r.Sync(b) },
		func(r *replica.Replica, way *bag.Bag) error { return r.Move(b) },
		func(r *replica.Replica, way *bag.Bag) error { return r.Take(raw) },
		func(r *replica.Replica, way *bag.Bag) error { r.Out(); return nil },
		func(r *replica.Replica, way *bag.Bag) error { _, err := way.Send(i, 2*b, raw); return err },
		func(r *replica.Replica, way *bag.Bag) error { return way.Swap(b, 0) },
		func(r *replica.Replica, way *bag.Bag) error { _, err := way.Deliver(b); return err },
		func(r *replica.Replica, way *bag.Bag) error { return way.Double(b) },
		func(r *replica.Replica, way *bag.Bag) error { way.Clear(); return nil },
	}
	call := calls[p.below(len(calls))]
	wantSameRefusal(p.t, call(p.c.Replica(i), p.c.Bag()), call(p.x.l[i], p.x.way))
}

// message is one that no replica has sent; or no message.
func (p *pair) message() []byte {
	m := api.Message{Kind: 1 + p.below(4), From: p.below(4), Epoch: p.below(3)}
	n := p.below(4)
	switch m.Kind {
	case api.Acts:
		m.Acts = []api.Act{{Op: api.Op{Kind: 1, Char: 'x', Replica: n}, Number: 1 + p.below(3)}}
	case api.Digest:
		m.Clock[n] = p.below(5)
	default:
		m.Rounds[n] = api.Round{Number: 1 + p.below(3), Decision: p.below(3)}
		for i := range 4 {
			m.Rounds[n].Votes[i], m.Rounds[n].Cut[i] = p.below(3), p.below(3)
		}
	}
	raw, err := packet.Bytes(m)
	ok(p.t, err)
	return bytes.Clone(raw[:len(raw)-p.below(2)])
}

func (p *pair) play(steps int, alone bool) {
	for range steps {
		switch n := p.below(20); {
		case n == 0:
			p.run()
		case n == 1:
			p.fairs()
		case n < 5 && !alone:
			p.beside()
		default:
			p.step()
		}
		p.wantSame()
	}
}

// P19.2 to P19.6, of sessions of which steps alone are made
func TestPlainReading(t *testing.T) {
	for seed := range int64(120) {
		newPair(t, rand.New(rand.NewSource(seed)).Intn).play(80, true)
	}
}

// and of those in which others play, too, by messages that are not honest
func TestPlainReadingBeside(t *testing.T) {
	for seed := range int64(200) {
		newPair(t, rand.New(rand.NewSource(seed)).Intn).play(60, false)
	}
}

// drawn are numbers that come from bytes, as long as some are left.
func drawn(raw *[]byte) func(n int) int {
	return func(n int) int {
		if len(*raw) == 0 {
			return 0
		}
		k := int((*raw)[0])
		*raw = (*raw)[1:]
		return k % n
	}
}

func FuzzPlainReading(f *testing.F) {
	f.Add([]byte{1, 20, 2, 3, 9, 0, 0, 0, 2, 1, 1}, true)
	f.Add([]byte("some steps of a session, as they come, and others"), false)
	f.Fuzz(func(t *testing.T, raw []byte, alone bool) {
		p := newPair(t, drawn(&raw))
		for len(raw) > 0 {
			p.play(1, alone)
		}
	})
}
