package audit

import (
	"slices"

	"barrow/api"
	"barrow/clock"
	"barrow/fault"
	"barrow/replica"
)

// nowhere is the At of a refusal that has no place.
const nowhere = -1

// Causal: may these be a log's acts?
func Causal(l []api.Act) bool {
	_, ok := delivered(l)
	return ok
}

// delivered is the clock of acts that are delivered one behind the other;
// false, if one of them is not ready then.
func delivered(l []api.Act) (have api.Clock, ok bool) {
	for _, act := range l {
		if !clock.Ready(have, act) {
			return api.Clock{}, false
		}
		have[act.Op.Replica] = act.Number
	}
	return have, true
}

// site is what a replica tells of itself.
type site struct {
	model, credit, size int
	live, cursor        int
	view                string
	clock               api.Clock
	elements            []api.Element
	acts, held          []api.Act
}

func siteOf(r *replica.Replica) site {
	return site{
		model:    r.Config().Model,
		credit:   r.Credit(),
		size:     r.Len(),
		live:     r.Live(),
		cursor:   r.Cursor(),
		view:     r.View(),
		clock:    r.Clock(),
		elements: r.Elements(),
		acts:     r.Acts(),
		held:     r.Held(),
	}
}

// Sound: is a replica as it must be?
func Sound(r *replica.Replica) error {
	if r == nil {
		return fault.New(layer, "Sound", nowhere, api.ErrArg)
	}
	return siteOf(r).flaws()
}

// flaws are a refusal for each thing that must hold and does not.
func (s site) flaws() error {
	var refused []error
	for i, holds := range musts() {
		if !holds(s) {
			refused = append(refused, fault.New(layer, "Sound", i+1, api.ErrForm))
		}
	}
	return fault.Join(refused...)
}

// musts are what must hold, in the order of their numbers from 1 on.
func musts() []func(s site) bool {
	return []func(s site) bool{
		site.hasNoHidesBelowZero,
		site.showsWhatIsNotHidden,
		site.hasEachOnce,
		site.fitsItsModel,
		site.hasRoomForItsCredit,
		site.hasItsClock,
		site.holdsNothingThatItHas,
		site.hasItsCursor,
	}
}

func (s site) hasNoHidesBelowZero() bool {
	return !slices.ContainsFunc(s.elements, func(e api.Element) bool { return e.Hides < 0 })
}

func (s site) showsWhatIsNotHidden() bool {
	isHidden := func(e api.Element) bool { return e.Hides != 0 }
	shown := slices.DeleteFunc(slices.Clone(s.elements), isHidden)
	return s.live == len(shown) && s.view == text(shown)
}

func (s site) hasEachOnce() bool { return len(places(s.elements)) == len(s.elements) }

func (s site) fitsItsModel() bool { return s.size <= s.model }

func (s site) hasRoomForItsCredit() bool { return s.credit >= 0 && s.credit+s.size <= s.model }

func (s site) hasItsClock() bool {
	have, ok := delivered(s.acts)
	return ok && have == s.clock
}

func (s site) holdsNothingThatItHas() bool {
	return !slices.ContainsFunc(s.held, func(act api.Act) bool {
		return clock.Has(s.clock, act.Op.Replica, act.Number)
	})
}

func (s site) hasItsCursor() bool { return s.cursor >= 0 && s.cursor <= s.live }
