// Package scan reads what messages and images are made of, by wire's calls: so
// that what both hold has one form, and is refused in one way.
package scan

import (
	"math"

	"barrow/api"
	"barrow/fault"
	"barrow/wire"
)

// Reader goes through bytes, one thing behind the other. Each of its calls gives
// up where something is refused, by a panic that All catches.
type Reader struct {
	layer, call string // those that refuse
	from        *wire.Reader
}

// stop is what a reading that can't go on panics with.
type stop struct {
	refusal error
}

// All does a reading that is to read all of raw, and tells what was read, or
// why that gave up.
func All[T any](layer, call string, raw []byte, read func(r *Reader) T) (whole T, err error) {
	r := &Reader{layer, call, wire.NewReader(raw)}
	defer func() {
		if given, up := recover().(stop); up {
			err = given.refusal
		}
	}()
	found := read(r)
	r.check(r.from.End())
	return found, nil
}

func (r *Reader) giveUp(at int, why error) {
	panic(stop{fault.New(r.layer, r.call, at, why)})
}

// check gives up, if wire has refused. That does not move the place.
func (r *Reader) check(err error) {
	if err != nil {
		r.giveUp(r.from.At(), err)
	}
}

// Byte reads a byte that is to be one of some.
func (r *Reader) Byte(least, most int) int {
	at := r.from.At()
	b, err := r.from.Byte()
	r.check(err)
	if int(b) < least || int(b) > most {
		r.giveUp(at, api.ErrForm)
	}
	return int(b)
}

// Number reads a number.
func (r *Reader) Number(most int) int {
	n, err := r.from.Number(most)
	r.check(err)
	return n
}

// Text reads a text.
func (r *Reader) Text() string {
	s, err := r.from.Text(math.MaxInt32)
	r.check(err)
	return s
}

// List reads how many things come, of which each has least bytes or more, and
// then these.
func List[T any](r *Reader, least int, one func(r *Reader) T) (l []T) {
	n, err := r.from.Count(least, math.MaxInt32)
	r.check(err)
	// A thing may take far more memory than bytes: so none is made room for
	// ahead of being read.
	for range n {
		l = append(l, one(r))
	}
	return l
}

// entry reads one of a list. If the last one might be 0, the list would have
// a shorter form too.
func (r *Reader) entry(last bool, most int) int {
	if last {
		return r.notZero(most)
	}
	return r.Number(most)
}

func (r *Reader) notZero(most int) int {
	at := r.from.At()
	n := r.Number(most)
	if n == 0 {
		r.giveUp(at, api.ErrForm)
	}
	return n
}
