package replica

import (
	"bytes"

	"barrow/api"
	"barrow/packet"
)

// Sync sends a digest.
func (r *Replica) Sync(to int) error {
	if !r.isOther(to) {
		return refusal("Sync", to, api.ErrArg)
	}
	m := r.message(api.Digest)
	m.Clock = r.Clock()
	r.send(m, to)
	return nil
}

// Out are the parcels that are to go out.
func (r *Replica) Out() []api.Parcel {
	out := r.out
	r.out = nil
	return out
}

func (r *Replica) isOther(replica int) bool {
	return isWithin(replica, 0, r.config.Replicas-1) && replica != r.self
}

func (r *Replica) message(kind int) api.Message {
	return api.Message{Kind: kind, From: r.self, Epoch: r.Epoch()}
}

func (r *Replica) sendAll(m api.Message) {
	var others []int
	for to := range r.config.Replicas {
		if r.isOther(to) {
			others = append(others, to)
		}
	}
	r.send(m, others...)
}

// send lays a message out for some. It is never refused: acts of a Log and
// rounds of a Desk are right.
func (r *Replica) send(m api.Message, to ...int) {
	raw, _ := packet.Bytes(m)
	for _, other := range to {
		r.out = append(r.out, api.Parcel{From: r.self, To: other, Bytes: bytes.Clone(raw)})
	}
}
