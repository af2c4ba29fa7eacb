package replica

import (
	"errors"
	"unicode/utf8"

	"barrow/anchor"
	"barrow/api"
	"barrow/diff"
	"barrow/history"
)

// An edit is what one call of the user's has issued so far, and to which
// elements that was done.
type edit struct {
	log     *history.Log
	self    int
	acts    []api.Act
	changes []api.Change
}

// Insert lays a text into the view.
func (r *Replica) Insert(p int, text string) error {
	return refusal("Insert", p, r.insert(p, text))
}

func (r *Replica) insert(p int, text string) error {
	switch {
	case !utf8.ValidString(text):
		return api.ErrText
	case !isWithin(p, 0, r.Live()):
		return api.ErrRange
	case r.Frozen():
		return api.ErrFrozen
	case utf8.RuneCountInString(text) > r.credit:
		return api.ErrFull
	}
	e, err := r.attempt(func(e *edit) error { return e.insert(p, text) })
	if err != nil || len(e.acts) == 0 {
		return err
	}
	r.stack.Done(e.changes)
	r.cursor = api.Anchor{ID: e.changes[len(e.changes)-1].ID}
	r.publish(e)
	return nil
}

// Erase takes characters out of the view.
func (r *Replica) Erase(p, n int) error {
	return refusal("Erase", p, r.erase(p, n))
}

func (r *Replica) erase(p, n int) error {
	switch {
	case !isWithin(p, 0, r.Live()) || !isWithin(n, 0, r.Live()-p):
		return api.ErrRange
	case r.Frozen():
		return api.ErrFrozen
	}
	e, err := r.attempt(func(e *edit) error { return e.erase(p, n) })
	if err != nil || len(e.acts) == 0 {
		return err
	}
	r.stack.Done(e.changes)
	r.cursor, err = anchor.At(r.log.Model(), p)
	r.publish(e)
	return err
}

// Undo takes the newest edit back.
func (r *Replica) Undo() error {
	return refusal("Undo", nowhere, r.turn(false, r.stack.Undo))
}

// Redo does it again.
func (r *Replica) Redo() error {
	return refusal("Redo", nowhere, r.turn(true, r.stack.Redo))
}

// turn does what the stack answers. The stack moves on behind that alone: so
// it stays as it is where something is refused.
func (r *Replica) turn(redo bool, move func() ([]api.Change, error)) error {
	changes, err := r.stack.Peek(redo)
	switch {
	case errors.Is(err, api.ErrNone):
		return err
	case r.Frozen():
		return api.ErrFrozen
	}
	e, err := r.attempt(func(e *edit) error { return e.repeat(changes) })
	if err != nil {
		return err
	}
	_, err = move()
	r.publish(e)
	return err
}

// Rewrite makes the view a text, by as few changes as may be.
func (r *Replica) Rewrite(text string) error {
	return refusal("Rewrite", nowhere, r.rewrite(text))
}

func (r *Replica) rewrite(text string) error {
	parts, err := diff.Edits(r.View(), text)
	switch {
	case errors.Is(err, api.ErrText):
		return api.ErrText // it is the text's: a view is never refused so
	case err != nil:
		return err
	case r.Frozen():
		return api.ErrFrozen
	case inserted(parts) > r.credit:
		return api.ErrFull
	}
	e, err := r.attempt(func(e *edit) error { return e.replace(parts) })
	if err != nil {
		return err
	}
	r.stack.Done(e.changes)
	r.publish(e)
	return nil
}

// inserted is how many characters edits of a text bring.
func inserted(parts []api.Edit) int {
	count := 0
	for _, part := range parts {
		count += utf8.RuneCountInString(part.Insert)
	}
	return count
}

// attempt does an edit as a whole, or not at all.
func (r *Replica) attempt(do func(e *edit) error) (*edit, error) {
	e := &edit{log: r.log, self: r.self}
	if err := do(e); err != nil {
		r.takeBack(len(e.acts))
		return nil, err
	}
	r.credit -= inserts(e.acts, r.self)
	return e, nil
}

// inserts is how many of the acts are Inserts of a replica.
func inserts(acts []api.Act, replica int) int {
	count := 0
	for _, act := range acts {
		if act.Op.Kind == api.Insert && act.Op.Replica == replica {
			count++
		}
	}
	return count
}

// takeBack makes the newest acts undone. A Log forgets none, so another one
// of the same base takes those ahead of them. (An edit is refused in its midst
// only where the base that From was given has the ID of an act to come.)
func (r *Replica) takeBack(count int) {
	kept := r.Acts()[:r.log.Len()-count]
	log, err := history.New(min(r.Epoch(), lastEpoch), r.base)
	if err != nil {
		return
	}
	for log.Epoch() < r.Epoch() {
		log.Next()
	}
	for _, act := range kept {
		log.Take(act)
	}
	r.log = log
}

// publish tells the others of an edit.
func (r *Replica) publish(e *edit) {
	if len(e.acts) == 0 {
		return
	}
	m := r.message(api.Acts)
	m.Acts = e.acts
	r.sendAll(m)
	r.settle()
}

// issue does something at a model index.
func (e *edit) issue(kind, at int, char rune) error {
	act, err := e.log.Issue(api.Op{Kind: kind, At: at, Char: char, Replica: e.self})
	if err != nil {
		return err
	}
	e.acts = append(e.acts, act)
	element, err := e.log.Model().At(at)
	e.changes = append(e.changes, api.Change{Kind: kind, ID: element.ID})
	return err
}

func (e *edit) insert(p int, text string) error {
	at, err := e.log.Model().Place(p)
	if err != nil {
		return err
	}
	for _, char := range text {
		if err := e.issue(api.Insert, at, char); err != nil {
			return err
		}
		at++
	}
	return nil
}

// erase finds all its elements ahead of erasing the first: one whose Hides is
// below 0 stays live, and would be found again.
func (e *edit) erase(p, n int) error {
	places := make([]int, n)
	for k := range places {
		at, err := e.log.Model().ModelOf(p + k)
		if err != nil {
			return err
		}
		places[k] = at
	}
	for _, at := range places {
		if err := e.issue(api.Erase, at, 0); err != nil {
			return err
		}
	}
	return nil
}

func (e *edit) replace(parts []api.Edit) error {
	for _, part := range parts {
		if err := e.erase(part.At, part.Erase); err != nil {
			return err
		}
		if err := e.insert(part.At, part.Insert); err != nil {
			return err
		}
	}
	return nil
}

func (e *edit) repeat(changes []api.Change) error {
	for _, c := range changes {
		at, _ := e.log.Model().Index(c.ID)
		if err := e.issue(c.Kind, at, 0); err != nil {
			return err
		}
	}
	return nil
}
