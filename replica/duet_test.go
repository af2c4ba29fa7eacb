package replica_test

import (
	"math/rand"
	"slices"
	"testing"

	"barrow/api"
	"barrow/fault"
	"barrow/packet"
	"barrow/replica"
)

// A duet plays a session of replicas and of their plain readings side by side,
// by numbers that it is given. What is under way may be lost, doubled and late;
// where it is not honest, it is spoilt and made up, too.
type duet struct {
	t      testing.TB
	below  func(n int) int // a number from 0 to n - 1
	honest bool
	config api.Config
	real   []*replica.Replica
	plain  []*plain
	way    []api.Parcel // under way
}

func newDuet(t testing.TB, below func(n int) int, honest bool) *duet {
	d := &duet{t: t, below: below, honest: honest}
	d.config = config(1+below(4), below(40), 1+below(4), below(5))
	d.real = all(t, d.config)
	for self := range d.config.Replicas {
		d.plain = append(d.plain, newPlain(d.config, self))
	}
	return d
}

// place is mostly 0 to most.
func (d *duet) place(most int) int {
	if d.below(16) == 0 {
		wrong := []int{-1, most + 1, most + 2, least, 1<<63 - 1}
		return wrong[d.below(len(wrong))]
	}
	return d.below(most + 1)
}

func (d *duet) text() string {
	if d.below(24) == 0 {
		return noText
	}
	var l []rune
	for range d.below(4) {
		l = append(l, []rune{'a', 'b', 'c', 0xE9, 0x4E16, '\n'}[d.below(6)])
	}
	return string(l)
}

// other is a text much like a view.
func (d *duet) other(view string) string {
	l := []rune(view)
	for range d.below(3) {
		p := d.below(len(l) + 1)
		l = slices.Replace(l, p, p+d.below(len(l)-p+1), []rune(d.text())...)
	}
	return string(l)
}

// same holds an answer, and all that is told then, against the plain reading.
func (d *duet) same(i int, call string, at int, err error, codes []int) {
	d.t.Helper()
	if !slices.Equal(fault.Codes(err), codes) {
		d.t.Fatalf("%d.%s: %v, want %v", i, call, err, codes)
	}
	if first, there := fault.First(err); there && first != here(call, max(at, -1)) {
		d.t.Fatalf("%d.%s: %v, at %v", i, call, err, first)
	}
	if x, want := tell(d.real[i]), d.plain[i].tell(); !sameTold(x, want) {
		d.t.Fatalf("behind %d.%s it is\n%+v, want\n%+v", i, call, x, want)
	}
}

// edit is a step of one replica's own.
func (d *duet) edit(i int) {
	r, x := d.real[i], d.plain[i]
	p, n, text := d.place(r.Live()), d.place(r.Live()), d.text()
	switch d.below(7) {
	case 0, 1:
		d.same(i, "Insert", p, r.Insert(p, text), x.insert(p, text))
	case 2:
		d.same(i, "Erase", p, r.Erase(p, n), x.erase(p, n))
	case 3:
		d.same(i, "Undo", -1, r.Undo(), x.undo())
	case 4:
		d.same(i, "Redo", -1, r.Redo(), x.redo())
	case 5:
		text = d.other(r.View())
		d.same(i, "Rewrite", -1, r.Rewrite(text), x.rewrite(text))
	case 6:
		d.same(i, "Move", p, r.Move(p), x.move(p))
	}
}

func (d *duet) take(i int, raw []byte) {
	d.same(i, "Take", -1, d.real[i].Take(raw), d.plain[i].take(raw))
}

// send brings what goes out under way.
func (d *duet) send(i int) {
	d.way = append(d.way, d.real[i].Out()...)
	d.plain[i].Out = nil
	if len(d.way) > 60 {
		d.way = d.way[d.below(60):]
	}
}

// arrive lets a parcel arrive; sometimes it stays under way, too.
func (d *duet) arrive() {
	if len(d.way) == 0 {
		return
	}
	k := d.below(len(d.way))
	p := d.way[k]
	if d.below(6) > 0 {
		d.way = slices.Delete(d.way, k, k+1)
	}
	raw := p.Bytes
	if !d.honest && d.below(4) == 0 {
		raw = d.spoilt(raw)
	}
	d.take(p.To, raw)
}

// near is a number beside another one.
func (d *duet) near(n int) int { return max(0, n+d.below(3)-1) }

func (d *duet) spoilt(raw []byte) []byte {
	m, err := packet.Read(raw)
	if err != nil {
		return raw
	}
	if d.below(3) == 0 {
		raw = slices.Clone(raw)
		raw[d.below(len(raw))] = byte(d.below(12))
		return raw[:len(raw)-d.below(2)]
	}
	m.Epoch = d.near(m.Epoch)
	for k := range m.Acts {
		d.spoilAct(&m.Acts[k])
	}
	if m.Kind == api.Reply || m.Kind == api.State {
		for c := range m.Rounds {
			d.spoilRound(&m.Rounds[c])
		}
	}
	return d.written(m)
}

// written is a message's bytes; an empty one's, if it can't be written.
func (d *duet) written(m api.Message) []byte {
	raw, err := packet.Bytes(m)
	if err != nil {
		return []byte{byte(api.State), byte(m.From & 7), 0, 0}
	}
	return raw
}

func (d *duet) spoilAct(a *api.Act) {
	switch d.below(10) {
	case 0:
		a.Op.At = d.near(a.Op.At)
	case 1:
		a.Number = d.near(a.Number)
	case 2:
		a.Clock[d.below(5)] = d.below(4)
	case 3:
		a.Op.Replica = d.below(5)
	case 4:
		a.Op.Kind, a.Op.Char = api.Restore, 0
	}
}

func (d *duet) spoilRound(r *api.Round) {
	switch d.below(12) {
	case 0:
		r.Number = d.near(r.Number)
	case 1:
		r.Votes[d.below(5)] = d.below(3)
	case 2:
		r.Decision = d.below(3)
	case 3:
		r.Cut[d.below(4)] = d.below(5)
	}
}

// invented is a message that a replica might have sent, if it knew how.
func (d *duet) invented(i int) []byte {
	x := d.plain[i]
	m := api.Message{Kind: 1 + d.below(4), From: d.below(d.config.Replicas), Epoch: x.Epoch}
	from := m.From
	switch m.Kind {
	case api.Digest:
		m.Clock = x.clock
		m.Clock[d.below(4)] = d.below(4)
	case api.Acts, api.Reply:
		clock := x.clock
		for range d.below(4) {
			a := api.Act{Op: api.Op{Kind: 1 + d.below(3), At: d.below(len(x.row) + 1), Replica: from}, Number: clock[from] + 1, Clock: clock}
			if a.Op.Kind == api.Insert {
				a.Op.Char = 'A' + rune(d.below(26))
			}
			clock[from]++
			if d.below(4) == 0 {
				d.spoilAct(&a)
			}
			m.Acts = append(m.Acts, a)
		}
	case api.State:
		m.Rounds = x.Rounds
		for c := range m.Rounds {
			d.spoilRound(&m.Rounds[c])
		}
	}
	if d.below(6) == 0 {
		m.Epoch = d.near(m.Epoch)
	}
	return d.written(m)
}

// reload goes on with a replica of the same parts; where it is not honest, of
// parts that are spoilt.
func (d *duet) reload(i int) {
	p := d.real[i].Parts()
	if !d.honest {
		d.spoilParts(&p)
	}
	r, err := replica.From(p)
	x, codes := plainFrom(p)
	if !slices.Equal(fault.Codes(err), codes) || (r == nil) != (err != nil) {
		d.t.Fatalf("From(%+v): %v, want %v", p, err, codes)
	}
	if d.honest && err != nil {
		d.t.Fatalf("From(%+v): %v", p, err)
	}
	if err != nil {
		d.same(i, "From", p.Self, err, codes)
		return
	}
	d.real[i], d.plain[i] = r, x
	d.same(i, "From", p.Self, nil, nil)
}

func (d *duet) spoilParts(p *api.Parts) {
	switch d.below(16) {
	case 0:
		p.Epoch = []int{-1, 1<<40 + 1, 1 << 40, p.Epoch + 1}[d.below(4)]
	case 1:
		p.Base = append(p.Base, api.Element{ID: id(d.below(3)+p.Epoch, d.below(4), d.below(9)), Char: 'B', Hides: d.below(2)})
	case 2:
		if len(p.Acts) > 0 {
			d.spoilAct(&p.Acts[d.below(len(p.Acts))])
		}
	case 3:
		p.Held = append(p.Held, act(api.Erase, d.below(3), 0, d.below(5), d.below(9), d.below(3), d.below(3)))
	case 4:
		d.spoilRound(&p.Rounds[d.below(5)])
	case 5:
		p.Done = append(p.Done, []api.Change{change(d.below(5), id(p.Epoch, d.below(4), d.below(6)))})
	case 6:
		p.Cursor = api.Anchor{Front: d.below(2) == 0, ID: id(p.Epoch, d.below(3), d.below(4))}
	case 7:
		p.Out = append(p.Out, api.Parcel{Serial: d.below(2), From: p.Self + d.below(2), To: d.below(5) - 1})
	case 8:
		p.Config.Model = d.below(40)
	}
}

func (d *duet) step() {
	i := d.below(d.config.Replicas)
	r, x := d.real[i], d.plain[i]
	switch n := d.below(40); {
	case n < 16:
		d.edit(i)
	case n < 18:
		d.same(i, "Propose", -1, r.Propose(), x.propose())
	case n < 21:
		to := d.place(d.config.Replicas - 1)
		d.same(i, "Sync", to, r.Sync(to), x.sync(to))
	case n < 35:
		d.arrive()
	case n < 37:
		if !d.honest {
			d.take(i, d.invented(i))
		}
	case n < 38:
		d.reload(i)
	}
	if d.below(3) > 0 {
		d.send(i)
	}
}

// P16.1 to P16.12, of honest sessions and of others.
func TestSessionsByTheWords(t *testing.T) {
	for seed := range int64(600) {
		d := newDuet(t, rand.New(rand.NewSource(seed)).Intn, seed%2 == 0)
		for range 150 {
			d.step()
		}
	}
}

func FuzzSessionsByTheWords(f *testing.F) {
	f.Add([]byte{1, 20, 2, 3, 0, 0, 0, 0, 2, 1, 1}, true)
	f.Add([]byte("some steps of a session, as they come, and what is made of them"), false)
	f.Fuzz(func(t *testing.T, raw []byte, honest bool) {
		d := newDuet(t, func(n int) int {
			if len(raw) == 0 {
				return 0
			}
			x := int(raw[0])
			raw = raw[1:]
			return x % n
		}, honest)
		for len(raw) > 0 {
			d.step()
		}
	})
}
