package image_test

import "barrow/api"

// plainBytes lays parts down as the chapter's 'The bytes' says.
func plainBytes(p api.Parts) []byte {
	b := []byte{66}
	b = append(b, plainNumbers(p.Config.Replicas, p.Config.Model, p.Config.Batch, p.Config.Buffer, p.Self, p.Epoch, len(p.Base))...)
	for _, e := range p.Base {
		b = append(b, plainNumbers(e.ID.Epoch, e.ID.Replica, e.ID.Number, int(e.Char))...)
	}
	b = append(b, plainActs(p.Acts)...)
	b = append(b, plainActs(p.Held)...)
	b = append(b, plainRounds(p.Rounds)...)
	for _, edits := range [][][]api.Change{p.Done, p.Undone} {
		b = append(b, plainNumbers(len(edits))...)
		for _, l := range edits {
			b = append(b, plainNumbers(len(l))...)
			for _, c := range l {
				b = append(b, byte(c.Kind))
				b = append(b, plainNumbers(c.ID.Epoch, c.ID.Replica, c.ID.Number)...)
			}
		}
	}
	if p.Cursor.Front {
		b = append(b, 1)
	} else {
		b = append(b, 0)
		b = append(b, plainNumbers(p.Cursor.ID.Epoch, p.Cursor.ID.Replica, p.Cursor.ID.Number)...)
	}
	b = append(b, plainNumbers(len(p.Out))...)
	for _, parcel := range p.Out {
		b = append(b, plainNumbers(parcel.To, len(parcel.Bytes))...)
		b = append(b, parcel.Bytes...)
	}
	return b
}

func plainActs(l []api.Act) []byte {
	b := plainNumbers(len(l))
	for _, a := range l {
		b = append(b, byte(a.Op.Kind))
		b = append(b, plainNumbers(a.Op.Replica, a.Op.At)...)
		if a.Op.Kind == 1 {
			b = append(b, plainNumbers(int(a.Op.Char))...)
		}
		b = append(b, plainNumbers(a.Number)...)
		b = append(b, plainRow(a.Clock)...)
	}
	return b
}

func plainRounds(l api.Rounds) []byte {
	last := 0
	for i, round := range l {
		if round.Number != 0 {
			last = i + 1
		}
	}
	b := plainNumbers(last)
	for _, round := range l[:last] {
		b = append(b, plainNumbers(round.Number)...)
		if round.Number != 0 {
			b = append(b, plainRow(round.Cut)...)
			b = append(b, plainRow(round.Votes)...)
			b = append(b, plainNumbers(round.Decision)...)
		}
	}
	return b
}

func plainRow(l [8]int) []byte {
	last := 0
	for i, n := range l {
		if n != 0 {
			last = i + 1
		}
	}
	return append(plainNumbers(last), plainNumbers(l[:last]...)...)
}

func plainNumbers(l ...int) (b []byte) {
	for _, n := range l {
		for ; n > 127; n /= 128 {
			b = append(b, byte(n%128)+128)
		}
		b = append(b, byte(n))
	}
	return b
}

// A plainReading reads as P17.2 says, one thing behind the other. Behind the
// first refusal nothing is read any more.
type plainReading struct {
	raw   []byte
	at    int
	why   error
	chain []api.Link
}

// refuse keeps the first refusal; call is wire's, or empty for one of image.
func (p *plainReading) refuse(at int, call string, why error) {
	if p.why != nil {
		return
	}
	p.why = why
	p.chain = []api.Link{{Layer: "image", Call: "Parts", At: at}}
	if call != "" {
		p.chain = append(p.chain, api.Link{Layer: "wire", Call: call, At: at})
	}
}

func (p *plainReading) left() int { return len(p.raw) - p.at }

// oneByte is to be least to top.
func (p *plainReading) oneByte(least, top int) int {
	if p.why == nil && p.left() == 0 {
		p.refuse(p.at, "Byte", api.ErrShort)
	}
	if p.why != nil {
		return 0
	}
	b := int(p.raw[p.at])
	if b < least || b > top {
		p.refuse(p.at, "", api.ErrForm)
	}
	p.at++
	return b
}

func (p *plainReading) number(call string, top int) int {
	if p.why != nil {
		return 0
	}
	rest := p.raw[p.at:]
	n := 0
	for n < len(rest) && rest[n] >= 128 && n < 9 {
		n++
	}
	switch {
	case n == 9:
		p.refuse(p.at, call, api.ErrForm)
		return 0
	case n == len(rest):
		p.refuse(p.at, call, api.ErrShort)
		return 0
	case n > 0 && rest[n] == 0:
		p.refuse(p.at, call, api.ErrForm)
		return 0
	}
	sum := 0
	for i := n; i >= 0; i-- {
		sum = sum*128 + int(rest[i]%128)
	}
	if sum > top {
		p.refuse(p.at, call, api.ErrRange)
		return 0
	}
	p.at += n + 1
	return sum
}

func (p *plainReading) any() int { return p.number("Number", most) }

func (p *plainReading) count(least int) int {
	at := p.at
	n := p.number("Count", 1<<31-1)
	if n*least > p.left() {
		p.refuse(at, "Count", api.ErrShort)
		return 0
	}
	return n
}

func (p *plainReading) text() string {
	at := p.at
	n := p.number("Text", 1<<31-1)
	if n > p.left() {
		p.refuse(at, "Text", api.ErrShort)
	}
	if p.why != nil {
		return ""
	}
	p.at += n
	return string(p.raw[p.at-n : p.at])
}

// notZero refuses what was read from at on, if it is 0.
func (p *plainReading) notZero(n, at int) int {
	if n == 0 {
		p.refuse(at, "", api.ErrForm)
	}
	return n
}

func (p *plainReading) row(top int) (l [8]int) {
	n := p.number("Number", 8)
	for i := 0; i < n; i++ {
		at := p.at
		l[i] = p.number("Number", top)
		if i == n-1 {
			p.notZero(l[i], at)
		}
	}
	return l
}

func (p *plainReading) acts() (l []api.Act) {
	n := p.count(4)
	for i := 0; i < n && p.why == nil; i++ {
		var a api.Act
		a.Op.Kind = p.oneByte(1, 3)
		a.Op.Replica = p.number("Number", 7)
		a.Op.At = p.any()
		if a.Op.Kind == 1 {
			a.Op.Char = rune(p.number("Number", 0x10FFFF))
		}
		at := p.at
		a.Number = p.notZero(p.any(), at)
		a.Clock = p.row(most)
		l = append(l, a)
	}
	return l
}

func (p *plainReading) rounds() (l api.Rounds) {
	n := p.number("Number", 8)
	for i := 0; i < n; i++ {
		at := p.at
		l[i].Number = p.any()
		if i == n-1 {
			p.notZero(l[i].Number, at)
		}
		if l[i].Number != 0 {
			l[i].Cut = p.row(most)
			l[i].Votes = p.row(2)
			l[i].Decision = p.number("Number", 2)
		}
	}
	return l
}

func (p *plainReading) id() (id api.ID) {
	id.Epoch = p.any()
	id.Replica = p.any()
	id.Number = p.any()
	return id
}

func (p *plainReading) edits() (l [][]api.Change) {
	n := p.count(1)
	for i := 0; i < n && p.why == nil; i++ {
		var edit []api.Change
		k := p.count(4)
		for j := 0; j < k && p.why == nil; j++ {
			var c api.Change
			c.Kind = p.oneByte(1, 3)
			c.ID = p.id()
			edit = append(edit, c)
		}
		l = append(l, edit)
	}
	return l
}

// parts are what is read of all bytes; zero, if that is refused.
func (p *plainReading) parts() (x api.Parts) {
	p.oneByte(66, 66)
	for _, to := range []*int{&x.Config.Replicas, &x.Config.Model, &x.Config.Batch, &x.Config.Buffer, &x.Self, &x.Epoch} {
		*to = p.any()
	}
	n := p.count(4)
	for i := 0; i < n && p.why == nil; i++ {
		var e api.Element
		e.ID = p.id()
		e.Char = rune(p.number("Number", 0x10FFFF))
		x.Base = append(x.Base, e)
	}
	x.Acts = p.acts()
	x.Held = p.acts()
	x.Rounds = p.rounds()
	x.Done = p.edits()
	x.Undone = p.edits()
	if p.oneByte(0, 1) == 1 {
		x.Cursor.Front = true
	} else {
		x.Cursor.ID = p.id()
	}
	n = p.count(2)
	for i := 0; i < n && p.why == nil; i++ {
		to := p.any()
		x.Out = append(x.Out, api.Parcel{From: x.Self, To: to, Bytes: []byte(p.text())})
	}
	if p.left() > 0 {
		p.refuse(p.at, "End", api.ErrForm)
	}
	if p.why != nil {
		return api.Parts{}
	}
	return x
}

// plainSum is P17.4, by numbers that don't wrap round.
func plainSum(raw []byte) uint32 {
	sum := uint64(2166136261)
	for _, b := range raw {
		sum = (sum ^ uint64(b)) * 16777619 % (1 << 32)
	}
	return uint32(sum)
}
