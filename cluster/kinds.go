package cluster

import (
	"errors"

	"barrow/api"
	"barrow/fault"
	"barrow/image"
	"barrow/replica"
	"barrow/script"
)

// kinds are what does a step, by its kind.
func kinds() [api.Steps]func(c *Cluster, s api.Step) error {
	return [...]func(c *Cluster, s api.Step) error{
		api.StepInsert:  (*Cluster).insert,
		api.StepErase:   (*Cluster).erase,
		api.StepUndo:    (*Cluster).undo,
		api.StepRedo:    (*Cluster).redo,
		api.StepRewrite: (*Cluster).rewrite,
		api.StepCursor:  (*Cluster).cursor,
		api.StepPropose: (*Cluster).propose,
		api.StepSync:    (*Cluster).sync,
		api.StepDeliver: (*Cluster).deliver,
		api.StepDrop:    (*Cluster).drop,
		api.StepDouble:  (*Cluster).double,
		api.StepSwap:    (*Cluster).swap,
		api.StepFair:    (*Cluster).fair,
		api.StepReload:  (*Cluster).reload,
	}
}

// actor is whose step it is.
func (c *Cluster) actor(s api.Step) *replica.Replica {
	return c.replicas[script.Fold(s.A, len(c.replicas))]
}

// gap is the view position that a number means.
func gap(r *replica.Replica, n int) int { return script.Fold(n, r.Live()+1) }

func (c *Cluster) insert(s api.Step) error {
	return c.edit(s, func(r *replica.Replica) error {
		return r.Insert(gap(r, s.B), s.Text)
	})
}

func (c *Cluster) erase(s api.Step) error {
	return c.edit(s, func(r *replica.Replica) error {
		p := gap(r, s.B)
		return r.Erase(p, script.Fold(s.C, r.Live()-p+1))
	})
}

func (c *Cluster) undo(s api.Step) error { return c.edit(s, (*replica.Replica).Undo) }

func (c *Cluster) redo(s api.Step) error { return c.edit(s, (*replica.Replica).Redo) }

func (c *Cluster) rewrite(s api.Step) error {
	return c.edit(s, func(r *replica.Replica) error { return r.Rewrite(s.Text) })
}

// edit remembers how many acts an edit has issued.
func (c *Cluster) edit(s api.Step, do func(r *replica.Replica) error) error {
	r := c.actor(s)
	self, epoch, before, cut := r.Self(), r.Epoch(), r.Clock(), r.Rounds()[r.Self()].Cut
	err := do(r)
	after := r.Clock()
	if r.Epoch() > epoch {
		// A message that was not honest may have brought a round of its own of
		// which only this edit was missing: its acts have filled the cut.
		after = cut
	}
	count := c.issued[epoch]
	count[self] += after[self] - before[self]
	c.issued[epoch] = count
	return err
}

func (c *Cluster) cursor(s api.Step) error {
	r := c.actor(s)
	return r.Move(gap(r, s.B))
}

// propose asks for the Number ahead: of one replica alone the round is
// committed, and forgotten, at once.
func (c *Cluster) propose(s api.Step) error {
	r := c.actor(s)
	next := round{r.Epoch(), r.Self(), r.Rounds()[r.Self()].Number + 1}
	err := r.Propose()
	if err == nil {
		c.proposed = append(c.proposed, next)
	}
	return err
}

func (c *Cluster) sync(s api.Step) error {
	if len(c.replicas) == 1 {
		return api.ErrNone
	}
	r := c.actor(s)
	to := script.Fold(s.B, len(c.replicas)-1)
	if to >= r.Self() {
		to++ // itself is left out
	}
	return r.Sync(to)
}

// place is the one in the Bag that two numbers mean; 0, if the Bag is empty.
func (c *Cluster) place(s api.Step) int { return script.Fold(s.A+256*s.B, c.bag.Len()) }

func (c *Cluster) deliver(s api.Step) error {
	parcel, err := c.bag.Deliver(c.place(s))
	if err != nil {
		return ofBag(err)
	}
	r := c.Replica(parcel.To)
	if r == nil {
		return api.ErrNone
	}
	return r.Take(parcel.Bytes)
}

func (c *Cluster) drop(s api.Step) error { return ofBag(c.bag.Drop(c.place(s))) }

func (c *Cluster) double(s api.Step) error { return ofBag(c.bag.Double(c.place(s))) }

func (c *Cluster) swap(s api.Step) error {
	count := c.bag.Len()
	return ofBag(c.bag.Swap(script.Fold(s.A, count), script.Fold(s.B, count)))
}

// ofBag is what a step answers of the Bag's refusal: a folded place is out of
// range just where the Bag is empty.
func ofBag(err error) error {
	var refusal *fault.Fault
	if errors.As(err, &refusal) && refusal.Why == api.ErrRange {
		return api.ErrNone
	}
	return err
}

func (c *Cluster) fair(api.Step) error {
	c.Fair()
	return nil
}

// reload leaves the replica as it stands where what it has saved is refused,
// as it may be behind messages that are not honest.
func (c *Cluster) reload(s api.Step) error {
	self := c.actor(s).Self()
	loaded, err := image.Load(image.Save(c.replicas[self]))
	if err != nil {
		return err
	}
	c.replicas[self] = loaded
	return nil
}
