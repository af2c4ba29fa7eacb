package wire

import (
	"barrow/api"
	"barrow/fault"
)

// Reader reads bytes from a place on.
type Reader struct {
	raw    []byte
	place  int
	broken error // the first refusal, which answers every later call
}

// NewReader makes one at the first byte.
func NewReader(raw []byte) *Reader { return &Reader{raw: copied(raw)} }

// Number reads a number.
func (r *Reader) Number(most int) (n int, err error) {
	err = r.attempt("Number", func() { n = r.number(most) })
	return n, err
}

// Count reads how many things come.
func (r *Reader) Count(least, most int) (n int, err error) {
	err = r.attempt("Count", func() { n = r.count(least, most) })
	return n, err
}

// Text reads a text.
func (r *Reader) Text(most int) (s string, err error) {
	err = r.attempt("Text", func() { s = string(r.take(r.number(most))) })
	return s, err
}

// Byte reads a byte.
func (r *Reader) Byte() (b byte, err error) {
	err = r.attempt("Byte", func() { b = r.take(1)[0] })
	return b, err
}

// End: are all bytes read?
func (r *Reader) End() error {
	return r.attempt("End", func() {
		if r.Left() > 0 {
			giveUp(api.ErrForm)
		}
	})
}

// At is the place.
func (r *Reader) At() int { return r.place }

// Left is how many bytes are behind it.
func (r *Reader) Left() int { return len(r.raw) - r.place }

// stop is what a reading that can't go on panics with.
type stop struct {
	why error
}

func giveUp(why error) { panic(stop{why}) }

// attempt does a reading. If that gives up, the place goes back to where the
// reading began, since what lies within a thing is refused as that thing.
func (r *Reader) attempt(call string, reading func()) (err error) {
	if r.broken != nil {
		return r.broken
	}
	start := r.place
	defer func() {
		if given, up := recover().(stop); up {
			r.place = start
			r.broken = fault.New(layer, call, start, given.why)
			err = r.broken
		}
	}()
	reading()
	return nil
}

func (r *Reader) number(most int) int {
	digits := r.digits()
	last := len(digits) - 1
	if last > 0 && digits[last] == 0 {
		giveUp(api.ErrForm)
	}
	n := 0
	for i := last; i >= 0; i-- {
		n = n<<digitBits | int(digits[i]%base)
	}
	if n > most {
		giveUp(api.ErrRange)
	}
	return n
}

// digits takes the bytes of a number, whatever their last one is.
func (r *Reader) digits() []byte {
	for i, b := range r.raw[r.place:] {
		if b < base {
			return r.take(i + 1)
		}
		if i+1 == maxDigits {
			giveUp(api.ErrForm)
		}
	}
	giveUp(api.ErrShort)
	return nil
}

func (r *Reader) count(least, most int) int {
	n := r.number(most)
	// A division can't go past the greatest int, as n times least might.
	if n > r.Left()/max(least, 1) {
		giveUp(api.ErrShort)
	}
	return n
}

// take goes on behind the next n bytes, and tells them. They are the Reader's
// own: no caller may hand them out.
func (r *Reader) take(n int) []byte {
	if n > r.Left() {
		giveUp(api.ErrShort)
	}
	start := r.place
	r.place += n
	return r.raw[start:r.place]
}
