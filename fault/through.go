package fault

import (
	"errors"
	"strconv"
	"strings"

	"barrow/api"
)

// asFault is the Fault that err itself is, or nil. errors.As would look
// further down, but only a Fault wraps one error alone.
func asFault(err error) *Fault {
	var f *Fault
	if errors.Unwrap(err) != nil && errors.As(err, &f) {
		return f
	}
	return nil
}

// asMany is the Many that err itself is, or nil. errors.As would look further
// down, but below a Fault alone: a reason wraps nothing.
func asMany(err error) *Many {
	var m *Many
	if errors.Unwrap(err) == nil && errors.As(err, &m) {
		return m
	}
	return nil
}

// number is that of a reason; CodeNone, if it has none.
func number(reason error) int {
	for code := api.CodeArg; code <= api.CodeRoom; code++ {
		if errors.Is(reason, Named(code)) {
			return code
		}
	}
	return api.CodeNone
}

func (f *Fault) link() api.Link {
	return api.Link{Layer: f.Layer, Call: f.Call, At: f.At}
}

// tell writes an error's words. It goes down by itself: if each Fault built a
// text of its own, a deep one would be copied once for each that wraps it.
func tell(words *strings.Builder, err error) {
	for f := asFault(err); f != nil; f = asFault(err) {
		f.tellPlace(words)
		err = f.Why
	}
	if m := asMany(err); m != nil {
		m.tellAll(words)
	} else if err != nil {
		words.WriteString(err.Error())
	}
}

func (f *Fault) tellPlace(words *strings.Builder) {
	words.WriteString(f.Layer)
	words.WriteByte('.')
	words.WriteString(f.Call)
	if f.At >= 0 {
		words.WriteString(" at ")
		words.WriteString(strconv.Itoa(f.At))
	}
	words.WriteString(": ")
}

func (m *Many) tellAll(words *strings.Builder) {
	for i, err := range m.Errs {
		if i > 0 {
			words.WriteString("; ")
		}
		tell(words, err)
	}
}

// tour is a going through of an error, and what was met on it. An error that
// is joined with itself, over and over, has few parts but more ways through
// than could be gone: so a Many is opened once, and its part of the codes is
// told anew when it is met again, if again asks for that.
type tour struct {
	again bool
	first *Fault
	codes []int
	told  map[*Many]span
}

// span is a piece of a list: from one place up to, but without, another.
type span struct {
	from, to int
}

func goThrough(err error, again bool) *tour {
	t := &tour{again: again, told: map[*Many]span{}}
	t.meet(err)
	return t
}

func (t *tour) meet(err error) {
	for f := asFault(err); f != nil; f = asFault(err) {
		if t.first == nil {
			t.first = f
		}
		err = f.Why
	}
	if m := asMany(err); m != nil {
		t.meetMany(m)
	} else if code := number(err); code != api.CodeNone {
		t.codes = append(t.codes, code)
	}
}

func (t *tour) meetMany(m *Many) {
	part, met := t.told[m]
	if !met {
		from := len(t.codes)
		for _, err := range m.Errs {
			t.meet(err)
		}
		t.told[m] = span{from, len(t.codes)}
	} else if t.again {
		t.codes = append(t.codes, t.codes[part.from:part.to]...)
	}
}
