package replica

import (
	"barrow/anchor"
	"barrow/api"
)

// Propose begins a flatten round.
func (r *Replica) Propose() error {
	if err := r.desk.Propose(r.Clock()); err != nil {
		return refusal("Propose", nowhere, err)
	}
	r.settle() // its own vote is something new, in any case
	return nil
}

// settle votes and decides, and tells the others, if that has changed something.
func (r *Replica) settle() {
	changed := r.desk.Settle(r.Clock())
	if r.desk.Done() {
		r.commit()
	}
	if changed {
		r.tellRounds()
	}
}

func (r *Replica) tellRounds() {
	m := r.message(api.State)
	m.Rounds = r.Rounds()
	r.sendAll(m)
}

// commit takes in that a round has come to a commit.
func (r *Replica) commit() {
	r.cursor, _ = anchor.Rebase(r.log.Model(), r.cursor)
	r.log.Next()
	r.begin(r.log)
	r.inbox.Clear()
	r.desk.Clear()
	r.stack.Clear()
}
