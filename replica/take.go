package replica

import (
	"barrow/api"
	"barrow/causal"
	"barrow/clock"
	"barrow/fault"
	"barrow/packet"
)

// Take takes in a message's bytes.
func (r *Replica) Take(raw []byte) error {
	return refusal("Take", nowhere, r.take(raw))
}

func (r *Replica) take(raw []byte) error {
	m, err := packet.Read(raw)
	if err != nil {
		return err
	}
	if !r.isOther(m.From) {
		return api.ErrArg
	}
	takers := r.takers()
	return takers[m.Kind](m)
}

// takers are what takes in a message, by its kind.
func (r *Replica) takers() [api.State + 1]func(m api.Message) error {
	return [...]func(m api.Message) error{
		api.Acts:   r.takeActs,
		api.Digest: r.answer,
		api.Reply:  r.takeRounds,
		api.State:  r.takeRounds,
	}
}

// answer tells who has sent a digest what it lacks.
func (r *Replica) answer(m api.Message) error {
	reply := r.message(api.Reply)
	reply.Rounds = r.Rounds()
	have := m.Clock
	if m.Epoch < r.Epoch() {
		have = api.Clock{}
	}
	if m.Epoch <= r.Epoch() {
		reply.Acts = causal.Missing(r.Acts(), have, r.config.Batch)
	}
	r.send(reply, m.From)
	return nil
}

func (r *Replica) takeActs(m api.Message) error {
	if m.Epoch != r.Epoch() {
		return api.ErrEpoch
	}
	return r.takeIn(m)
}

// takeRounds may learn from the message's epoch that a round was decided.
func (r *Replica) takeRounds(m api.Message) error {
	if m.Epoch != r.Epoch() {
		switch {
		case m.Epoch != r.Epoch()+1:
			return api.ErrEpoch
		case !r.Frozen():
			return api.ErrOrder
		}
		r.commit()
	}
	return r.takeIn(m)
}

// takeIn takes in what a message of this epoch holds; what a kind does not
// use is nothing, and changes nothing.
func (r *Replica) takeIn(m api.Message) error {
	var refused []error
	for _, act := range m.Acts {
		refused = append(refused, r.offer(act)...)
	}
	r.inbox.Sweep(r.Clock())
	r.desk.Join(m.Rounds)
	r.settle()
	return fault.Join(refused...)
}

// offer tells what was refused of an act, and of those that waited for it.
func (r *Replica) offer(act api.Act) []error {
	isOwn := act.Op.Replica == r.self
	if isOwn && act.Number > r.Clock()[r.self] || !r.isOfHere(act) {
		return []error{api.ErrForm}
	}
	switch r.inbox.Offer(r.Clock(), act) {
	case api.Ready:
		return r.deliver(act)
	case api.Lost:
		return []error{api.ErrRoom}
	}
	return nil
}

// isOfHere: may one of these replicas have issued it?
func (r *Replica) isOfHere(act api.Act) bool {
	return act.Op.Replica < r.config.Replicas && clock.Valid(act.Clock, r.config.Replicas)
}

// deliver takes an act, and then those that waited, as long as one is ready.
func (r *Replica) deliver(act api.Act) []error {
	var refused []error
	for ready := true; ready; act, ready = r.inbox.Next(r.Clock()) {
		_, err := r.log.Take(act)
		refused = append(refused, err)
	}
	return refused
}
