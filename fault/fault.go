// Package fault is layer 1: see shared/doc/01-fault.md.
package fault

import (
	"slices"
	"strings"

	"barrow/api"
)

// Fault is a refusal: where, and why.
type Fault struct {
	Layer, Call string
	At          int
	Why         error
}

// Error is the refusal in words.
func (f *Fault) Error() string {
	var words strings.Builder
	f.tellPlace(&words)
	tell(&words, f.Why)
	return words.String()
}

// Unwrap is why.
func (f *Fault) Unwrap() error { return f.Why }

// Many is several errors.
type Many struct{ Errs []error }

// Error is all of them in words.
func (m *Many) Error() string {
	var words strings.Builder
	m.tellAll(&words)
	return words.String()
}

// Unwrap tells them.
func (m *Many) Unwrap() []error { return slices.Clone(m.Errs) }

// New makes a refusal.
func New(layer, call string, at int, why error) error {
	if why == nil {
		return nil
	}
	return &Fault{Layer: layer, Call: call, At: max(at, -1), Why: why}
}

// Join makes one error of several.
func Join(errs ...error) error {
	var kept []error
	for _, err := range errs {
		if err != nil {
			kept = append(kept, err)
		}
	}
	switch len(kept) {
	case 0:
		return nil
	case 1:
		return kept[0]
	}
	return &Many{Errs: kept}
}

// Named is the reason of a number.
func Named(code int) error {
	reasons := [...]error{
		api.CodeArg:     api.ErrArg,
		api.CodeRange:   api.ErrRange,
		api.CodeText:    api.ErrText,
		api.CodeFull:    api.ErrFull,
		api.CodeFrozen:  api.ErrFrozen,
		api.CodeForm:    api.ErrForm,
		api.CodeShort:   api.ErrShort,
		api.CodeOrder:   api.ErrOrder,
		api.CodeTwice:   api.ErrTwice,
		api.CodeEpoch:   api.ErrEpoch,
		api.CodeBusy:    api.ErrBusy,
		api.CodeNothing: api.ErrNone,
		api.CodeRoom:    api.ErrRoom,
	}
	if code == api.CodeOther {
		return api.ErrOther
	}
	if code < api.CodeArg || code > api.CodeRoom {
		return nil
	}
	return reasons[code]
}

// Code is the number of the first reason.
func Code(err error) int {
	if err == nil {
		return api.CodeNone
	}
	codes := goThrough(err, false).codes
	if len(codes) == 0 {
		return api.CodeOther
	}
	return codes[0]
}

// Codes are the numbers of all reasons.
func Codes(err error) []int { return goThrough(err, true).codes }

// Has: is the reason of that number among them?
func Has(err error, code int) bool {
	return slices.Contains(goThrough(err, false).codes, code)
}

// First is the first place on the way.
func First(err error) (api.Link, bool) {
	first := goThrough(err, false).first
	if first == nil {
		return api.Link{}, false
	}
	return first.link(), true
}

// Chain is all places on the first way.
func Chain(err error) []api.Link {
	var links []api.Link
	for {
		f, m := asFault(err), asMany(err)
		switch {
		case f != nil:
			links = append(links, f.link())
			err = f.Why
		case m != nil && len(m.Errs) > 0:
			err = m.Errs[0]
		default:
			return links
		}
	}
}
