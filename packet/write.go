package packet

import (
	"barrow/api"
	"barrow/wire"
)

// writing puts down a message that is right. No number in that is below 0:
// so wire refuses none of them, and its errors need not be asked for.
type writing struct {
	to *wire.Writer
}

func (w writing) message(m api.Message) {
	w.to.Byte(byte(m.Kind))
	w.to.Number(m.From)
	w.to.Number(m.Epoch)
	switch m.Kind {
	case api.Acts:
		w.acts(m.Acts)
	case api.Digest:
		w.row(m.Clock)
	case api.Reply:
		w.acts(m.Acts)
		fallthrough
	case api.State:
		w.rounds(m.Rounds)
	}
}

func (w writing) acts(acts []api.Act) {
	w.to.Number(len(acts))
	for _, act := range acts {
		w.op(act.Op)
		w.to.Number(act.Number)
		w.row(act.Clock)
	}
}

func (w writing) op(op api.Op) {
	w.to.Byte(byte(op.Kind))
	w.to.Number(op.Replica)
	w.to.Number(op.At)
	if op.Kind == api.Insert {
		w.to.Number(int(op.Char))
	}
}

func (w writing) row(l row) {
	n := length(l)
	w.to.Number(n)
	for _, entry := range l[:n] {
		w.to.Number(entry)
	}
}

func (w writing) rounds(rounds api.Rounds) {
	n := length(numbers(rounds))
	w.to.Number(n)
	for _, round := range rounds[:n] {
		w.round(round)
	}
}

func (w writing) round(round api.Round) {
	w.to.Number(round.Number)
	if round.Number == 0 {
		return
	}
	w.row(round.Cut)
	w.row(round.Votes)
	w.to.Number(round.Decision)
}

// length is how many entries there are up to the last one that is not 0.
func length(l row) int {
	n := len(l)
	for n > 0 && l[n-1] == 0 {
		n--
	}
	return n
}

func numbers(rounds api.Rounds) (l row) {
	for i, round := range rounds {
		l[i] = round.Number
	}
	return l
}
