package image

import (
	"barrow/api"
	"barrow/packet"
	"barrow/wire"
)

// writing puts down what a replica keeps. No number in that is below 0: so
// wire refuses none of them, and its errors need not be asked for.
type writing struct {
	to *wire.Writer
}

func (w writing) parts(p api.Parts) {
	w.to.Byte(mark)
	w.numbers(p.Config.Replicas, p.Config.Model, p.Config.Batch, p.Config.Buffer, p.Self, p.Epoch)
	w.base(p.Base)
	w.acts(p.Acts)
	w.acts(p.Held)
	w.body(api.Message{Kind: api.State, Rounds: p.Rounds})
	w.edits(p.Done)
	w.edits(p.Undone)
	w.cursor(p.Cursor)
	w.out(p.Out)
}

func (w writing) numbers(l ...int) {
	for _, n := range l {
		w.to.Number(n)
	}
}

func (w writing) base(l []api.Element) {
	w.numbers(len(l))
	for _, e := range l {
		w.id(e.ID)
		w.numbers(int(e.Char))
	}
}

func (w writing) id(id api.ID) { w.numbers(id.Epoch, id.Replica, id.Number) }

func (w writing) acts(l []api.Act) { w.body(api.Message{Kind: api.Acts, Acts: l}) }

// head is how many bytes a message of the replica 0 in epoch 0 has ahead of
// what its kind holds.
const head = 3

// body puts down what the message holds, as it stands in packet's bytes. That
// is never refused: acts and rounds that a replica keeps are right.
func (w writing) body(m api.Message) {
	raw, _ := packet.Bytes(m)
	for _, b := range raw[head:] {
		w.to.Byte(b)
	}
}

func (w writing) edits(l [][]api.Change) {
	w.numbers(len(l))
	for _, edit := range l {
		w.numbers(len(edit))
		for _, c := range edit {
			w.to.Byte(byte(c.Kind))
			w.id(c.ID)
		}
	}
}

func (w writing) cursor(a api.Anchor) {
	if a.Front {
		w.to.Byte(front)
		return
	}
	w.to.Byte(behind)
	w.id(a.ID)
}

func (w writing) out(l []api.Parcel) {
	w.numbers(len(l))
	for _, p := range l {
		w.numbers(p.To)
		w.to.Text(string(p.Bytes))
	}
}
