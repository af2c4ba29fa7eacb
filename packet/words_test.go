package packet_test

import (
	"math/big"

	"barrow/api"
)

// plainRight is P9.1's Right, word by word.
func plainRight(m api.Message) bool {
	if m.Kind < 1 || m.Kind > 4 || m.From < 0 || m.From > 7 || m.Epoch < 0 {
		return false
	}
	if m.Kind != 1 && m.Kind != 3 && len(m.Acts) > 0 {
		return false
	}
	if m.Kind != 2 && m.Clock != (api.Clock{}) {
		return false
	}
	if m.Kind != 3 && m.Kind != 4 && m.Rounds != (api.Rounds{}) {
		return false
	}
	for _, act := range m.Acts {
		op := act.Op
		if op.Kind < 1 || op.Kind > 3 || op.Replica < 0 || op.Replica > 7 || op.At < 0 || act.Number < 1 || anyBelow0(act.Clock) {
			return false
		}
		if op.Kind == 1 && (op.Char < 0 || op.Char > 0x10FFFF) || op.Kind != 1 && op.Char != 0 {
			return false
		}
	}
	for _, round := range m.Rounds {
		if round.Number < 0 || round.Number == 0 && round != (api.Round{}) || anyBelow0(round.Cut) {
			return false
		}
		for _, n := range append(round.Votes[:], round.Decision) {
			if n < 0 || n > 2 {
				return false
			}
		}
	}
	return !anyBelow0(m.Clock)
}

func anyBelow0(c api.Clock) bool {
	for _, n := range c {
		if n < 0 {
			return true
		}
	}
	return false
}

// plainBytes lays a right message down as the chapter's 'The bytes' says.
func plainBytes(m api.Message) []byte {
	b := append([]byte{byte(m.Kind)}, plainNumbers(m.From, m.Epoch)...)
	if m.Kind == 1 || m.Kind == 3 {
		b = append(b, plainNumbers(len(m.Acts))...)
		for _, act := range m.Acts {
			b = append(b, byte(act.Op.Kind))
			b = append(b, plainNumbers(act.Op.Replica, act.Op.At)...)
			if act.Op.Kind == 1 {
				b = append(b, plainNumbers(int(act.Op.Char))...)
			}
			b = append(b, plainNumbers(act.Number)...)
			b = append(b, plainRow(act.Clock)...)
		}
	}
	if m.Kind == 2 {
		b = append(b, plainRow(m.Clock)...)
	}
	if m.Kind == 3 || m.Kind == 4 {
		last := 0
		for i, round := range m.Rounds {
			if round.Number != 0 {
				last = i + 1
			}
		}
		b = append(b, plainNumbers(last)...)
		for _, round := range m.Rounds[:last] {
			b = append(b, plainNumbers(round.Number)...)
			if round.Number != 0 {
				b = append(b, plainRow(round.Cut)...)
				b = append(b, plainRow(round.Votes)...)
				b = append(b, plainNumbers(round.Decision)...)
			}
		}
	}
	return b
}

func plainRow(l [8]int) []byte {
	last := 0
	for i, n := range l {
		if n != 0 {
			last = i + 1
		}
	}
	return append(plainNumbers(last), plainNumbers(l[:last]...)...)
}

func plainNumbers(l ...int) (b []byte) {
	for _, n := range l {
		rest, low := big.NewInt(int64(n)), new(big.Int)
		for {
			rest.DivMod(rest, big.NewInt(128), low)
			if rest.Sign() == 0 {
				break
			}
			b = append(b, byte(low.Int64()+128))
		}
		b = append(b, byte(low.Int64()))
	}
	return b
}

// A plainReading reads as P9.2 says, one thing behind the other. Behind the
// first refusal nothing is read any more.
type plainReading struct {
	raw   []byte
	at    int
	why   error
	chain []api.Link
}

// refuse keeps the first refusal; call is wire's, or empty for one of packet.
func (p *plainReading) refuse(at int, call string, why error) {
	if p.why != nil {
		return
	}
	p.why = why
	p.chain = []api.Link{{Layer: "packet", Call: "Read", At: at}}
	if call != "" {
		p.chain = append(p.chain, api.Link{Layer: "wire", Call: call, At: at})
	}
}

func (p *plainReading) oneByte() int {
	if p.why == nil && p.at == len(p.raw) {
		p.refuse(p.at, "Byte", api.ErrShort)
	}
	if p.why != nil {
		return 0
	}
	p.at++
	return int(p.raw[p.at-1])
}

func (p *plainReading) number(call string, top int) int {
	if p.why != nil {
		return 0
	}
	rest := p.raw[p.at:]
	n := 0
	for n < len(rest) && rest[n] >= 128 && n < 9 {
		n++
	}
	switch {
	case n == 9:
		p.refuse(p.at, call, api.ErrForm)
		return 0
	case n == len(rest):
		p.refuse(p.at, call, api.ErrShort)
		return 0
	case n > 0 && rest[n] == 0:
		p.refuse(p.at, call, api.ErrForm)
		return 0
	}
	sum := new(big.Int)
	for i := n; i >= 0; i-- {
		sum.Add(sum.Lsh(sum, 7), big.NewInt(int64(rest[i]%128)))
	}
	if sum.Cmp(big.NewInt(int64(top))) > 0 {
		p.refuse(p.at, call, api.ErrRange)
		return 0
	}
	p.at += n + 1
	return int(sum.Int64())
}

func (p *plainReading) count() int {
	at := p.at
	n := p.number("Count", 1<<31-1)
	if n*4 > len(p.raw)-p.at {
		p.refuse(at, "Count", api.ErrShort)
		return 0
	}
	return n
}

// formUnless refuses what was read from at on.
func (p *plainReading) formUnless(ok bool, at int) {
	if !ok {
		p.refuse(at, "", api.ErrForm)
	}
}

func (p *plainReading) row(top int) (l [8]int) {
	n := p.number("Number", 8)
	for i := 0; i < n; i++ {
		at := p.at
		l[i] = p.number("Number", top)
		p.formUnless(i < n-1 || l[i] != 0, at)
	}
	return l
}

func (p *plainReading) acts() (l []api.Act) {
	n := p.count()
	for i := 0; i < n && p.why == nil; i++ {
		var act api.Act
		at := p.at
		act.Op.Kind = p.oneByte()
		p.formUnless(act.Op.Kind >= 1 && act.Op.Kind <= 3, at)
		act.Op.Replica = p.number("Number", 7)
		act.Op.At = p.number("Number", most)
		if act.Op.Kind == 1 {
			act.Op.Char = rune(p.number("Number", 0x10FFFF))
		}
		at = p.at
		act.Number = p.number("Number", most)
		p.formUnless(act.Number != 0, at)
		act.Clock = p.row(most)
		l = append(l, act)
	}
	return l
}

func (p *plainReading) rounds() (l api.Rounds) {
	n := p.number("Number", 8)
	for i := 0; i < n; i++ {
		at := p.at
		l[i].Number = p.number("Number", most)
		p.formUnless(i < n-1 || l[i].Number != 0, at)
		if l[i].Number != 0 {
			l[i].Cut = p.row(most)
			l[i].Votes = p.row(2)
			l[i].Decision = p.number("Number", 2)
		}
	}
	return l
}

// message is what is read of all bytes; zero, if that is refused.
func (p *plainReading) message() (m api.Message) {
	m.Kind = p.oneByte()
	p.formUnless(m.Kind >= 1 && m.Kind <= 4, 0)
	m.From = p.number("Number", 7)
	m.Epoch = p.number("Number", most)
	switch m.Kind {
	case 1:
		m.Acts = p.acts()
	case 2:
		m.Clock = p.row(most)
	case 3:
		m.Acts = p.acts()
		m.Rounds = p.rounds()
	case 4:
		m.Rounds = p.rounds()
	}
	if p.at < len(p.raw) {
		p.refuse(p.at, "End", api.ErrForm)
	}
	if p.why != nil {
		return api.Message{}
	}
	return m
}
