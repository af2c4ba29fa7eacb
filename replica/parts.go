package replica

import (
	"bytes"
	"slices"

	"barrow/anchor"
	"barrow/api"
	"barrow/history"
	"barrow/packet"
	"barrow/undo"
)

// lastEpoch is the last one in which a replica can be made.
const lastEpoch = 1 << 40

// Parts are all that it keeps.
func (r *Replica) Parts() api.Parts {
	done, undone := r.stack.Edits()
	return api.Parts{
		Config: r.config,
		Self:   r.self,
		Epoch:  r.Epoch(),
		Base:   append([]api.Element(nil), r.base...),
		Acts:   r.Acts(),
		Held:   r.Held(),
		Rounds: r.Rounds(),
		Done:   done,
		Undone: undone,
		Cursor: r.cursor,
		Out:    copied(r.out),
	}
}

func copied(parcels []api.Parcel) []api.Parcel {
	var own []api.Parcel
	for _, p := range parcels {
		p.Bytes = bytes.Clone(p.Bytes)
		own = append(own, p)
	}
	return own
}

// From makes one of its parts.
func From(p api.Parts) (*Replica, error) {
	r, why := assembled(p)
	if why != nil {
		return nil, refusal("From", p.Self, why)
	}
	return r, nil
}

func assembled(p api.Parts) (*Replica, error) {
	r, why := empty(p.Config, p.Self)
	if why != nil {
		return nil, why
	}
	steps := []func(p api.Parts) error{
		r.loadBase, r.loadActs, r.loadHeld, r.loadRounds, r.loadEdits, r.loadCursor, r.loadOut,
	}
	for _, load := range steps {
		if why := load(p); why != nil {
			return nil, why
		}
	}
	return r, nil
}

func (r *Replica) loadBase(p api.Parts) error {
	if !isWithin(p.Epoch, 0, lastEpoch) {
		return api.ErrArg
	}
	if len(p.Base) > r.config.Model || slices.ContainsFunc(p.Base, isNoneOfBase) {
		return api.ErrForm
	}
	log, err := history.New(p.Epoch, p.Base)
	if err != nil {
		return err
	}
	r.begin(log)
	return nil
}

func isNoneOfBase(e api.Element) bool {
	return e.Hides != 0 || min(e.ID.Epoch, e.ID.Replica, e.ID.Number) < 0
}

func (r *Replica) loadActs(p api.Parts) error {
	for _, act := range p.Acts {
		if !r.isOfHere(act) {
			return api.ErrForm
		}
		if _, err := r.log.Take(act); err != nil {
			return api.ErrForm
		}
	}
	r.credit -= inserts(p.Acts, r.self)
	if r.credit < 0 {
		return api.ErrForm
	}
	return nil
}

func (r *Replica) loadHeld(p api.Parts) error {
	for _, act := range p.Held {
		isRight := packet.Right(api.Message{Kind: api.Acts, Acts: []api.Act{act}})
		if !isRight || !r.isOfHere(act) || r.inbox.Offer(r.Clock(), act) != api.Held {
			return api.ErrForm
		}
	}
	return nil
}

func (r *Replica) loadRounds(p api.Parts) error {
	if !packet.Right(api.Message{Kind: api.State, Rounds: p.Rounds}) {
		return api.ErrForm
	}
	r.desk.Join(p.Rounds)
	return nil
}

func (r *Replica) loadEdits(p api.Parts) error {
	stack, err := undo.Load(p.Done, p.Undone)
	if err != nil {
		return err
	}
	for _, changes := range slices.Concat(p.Done, p.Undone) {
		if slices.ContainsFunc(changes, r.isOfNothing) {
			return api.ErrForm
		}
	}
	r.stack = stack
	return nil
}

func (r *Replica) isOfNothing(c api.Change) bool {
	_, there := r.log.Model().Index(c.ID)
	return !there
}

func (r *Replica) loadCursor(p api.Parts) error {
	_, there := anchor.Where(r.log.Model(), p.Cursor)
	front := api.Anchor{Front: true}
	if !there || p.Cursor.Front && p.Cursor != front {
		return api.ErrForm
	}
	r.cursor = p.Cursor
	return nil
}

func (r *Replica) loadOut(p api.Parts) error {
	for _, parcel := range p.Out {
		if parcel.Serial != 0 || parcel.From != r.self || !r.isOther(parcel.To) {
			return api.ErrForm
		}
	}
	r.out = copied(p.Out)
	return nil
}
