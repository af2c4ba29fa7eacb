package wire_test

import (
	"bytes"
	"encoding/hex"
	"errors"
	"math"
	"slices"
	"strings"
	"testing"

	"barrow/api"
	"barrow/fault"
	"barrow/wire"
)

const most = math.MaxInt

// raw makes bytes of their digits to the base 16.
func raw(t *testing.T, digits string) []byte {
	t.Helper()
	b, err := hex.DecodeString(strings.ReplaceAll(digits, " ", ""))
	if err != nil {
		t.Fatal(err)
	}
	return b
}

func wantBytes(t *testing.T, w *wire.Writer, digits string) {
	t.Helper()
	want := raw(t, digits)
	if got := w.Bytes(); !bytes.Equal(got, want) || w.Len() != len(want) {
		t.Errorf("the Writer holds % x (Len %d), not % x", got, w.Len(), want)
	}
}

func wantRefusal(t *testing.T, err error, call string, at int, why error) {
	t.Helper()
	f, ok := err.(*fault.Fault)
	if !ok || *f != (fault.Fault{Layer: "wire", Call: call, At: at, Why: why}) {
		t.Errorf("the error is %v, not wire.%s at %d: %v", err, call, at, why)
	}
}

func wantPlace(t *testing.T, r *wire.Reader, at, left int) {
	t.Helper()
	if r.At() != at || r.Left() != left {
		t.Errorf("At is %d, Left is %d, not %d and %d", r.At(), r.Left(), at, left)
	}
}

// wantBroken calls every reading function: each one answers the first refusal, and moves nothing.
func wantBroken(t *testing.T, r *wire.Reader, first error) {
	t.Helper()
	at, left := r.At(), r.Left()
	for range 2 {
		if n, err := r.Number(most); n != 0 || err != first {
			t.Errorf("broken: Number is %d, %v", n, err)
		}
		if n, err := r.Count(0, most); n != 0 || err != first {
			t.Errorf("broken: Count is %d, %v", n, err)
		}
		if s, err := r.Text(most); s != "" || err != first {
			t.Errorf("broken: Text is %q, %v", s, err)
		}
		if b, err := r.Byte(); b != 0 || err != first {
			t.Errorf("broken: Byte is %d, %v", b, err)
		}
		if err := r.End(); err != first {
			t.Errorf("broken: End is %v", err)
		}
		wantPlace(t, r, at, left)
	}
}

// P2.1

func TestWriterNumber(t *testing.T) {
	for _, x := range []struct {
		n      int
		digits string
	}{
		{0, "00"}, {1, "01"}, {127, "7f"}, {128, "80 01"}, {129, "81 01"}, {255, "ff 01"}, {256, "80 02"}, {300, "ac 02"},
		{16383, "ff 7f"}, {16384, "80 80 01"}, {1<<21 - 1, "ff ff 7f"}, {1 << 21, "80 80 80 01"},
		{1 << 31, "80 80 80 80 08"}, {1<<56 - 1, "ff ff ff ff ff ff ff 7f"}, {1 << 56, "80 80 80 80 80 80 80 80 01"},
		{most - 1, "fe ff ff ff ff ff ff ff 7f"}, {most, "ff ff ff ff ff ff ff ff 7f"},
	} {
		w := wire.New()
		if err := w.Number(x.n); err != nil {
			t.Errorf("Number %d: %v", x.n, err)
		}
		wantBytes(t, w, x.digits)
	}
}

func TestWriterRefusesNumbersBelow0(t *testing.T) {
	for _, n := range []int{-1, -2, -127, -128, math.MinInt32, math.MinInt} {
		w := wire.New()
		wantRefusal(t, w.Number(n), "Number", 0, api.ErrArg)
		wantBytes(t, w, "")
		w.Number(300)
		w.Byte(7)
		wantRefusal(t, w.Number(n), "Number", 3, api.ErrArg)
		wantBytes(t, w, "ac 02 07")
		if err := w.Number(1); err != nil {
			t.Errorf("behind a refusal: %v", err)
		}
		wantBytes(t, w, "ac 02 07 01")
	}
}

func TestWriterText(t *testing.T) {
	for s, digits := range map[string]string{
		"":                       "00",
		"ab":                     "02 61 62",
		"\x00":                   "01 00",
		"\xff\x80":               "02 ff 80",
		"é\n":                    "03 c3 a9 0a",
		strings.Repeat("x", 127): "7f" + strings.Repeat("78", 127),
		strings.Repeat("x", 128): "80 01" + strings.Repeat("78", 128),
	} {
		w := wire.New()
		if err := w.Text(s); err != nil {
			t.Errorf("Text %q: %v", s, err)
		}
		wantBytes(t, w, digits)
	}
}

func TestWriterByte(t *testing.T) {
	w := wire.New()
	for b := range 256 {
		w.Byte(byte(b))
		if w.Len() != b+1 {
			t.Errorf("Len is %d behind %d bytes", w.Len(), b+1)
		}
	}
	for b, got := range w.Bytes() {
		if int(got) != b {
			t.Errorf("the byte %d is %d", b, got)
		}
	}
}

func TestWriterPutsBehind(t *testing.T) {
	w := wire.New()
	w.Byte(0xff)
	w.Number(128)
	w.Text("ab")
	w.Text("")
	w.Number(0)
	w.Byte(0)
	wantBytes(t, w, "ff 80 01 02 61 62 00 00 00")
}

func TestZeroWriterIsEmpty(t *testing.T) {
	var number, text, single, none wire.Writer
	number.Number(300)
	wantBytes(t, &number, "ac 02")
	text.Text("ab")
	wantBytes(t, &text, "02 61 62")
	single.Byte(9)
	wantBytes(t, &single, "09")
	wantBytes(t, &none, "")
	wantRefusal(t, none.Number(-1), "Number", 0, api.ErrArg)
	wantBytes(t, wire.New(), "")
}

func TestWritersKnowNothingOfEachOther(t *testing.T) {
	a, b := wire.New(), wire.New()
	a.Byte(1)
	b.Byte(2)
	a.Byte(3)
	wantBytes(t, a, "01 03")
	wantBytes(t, b, "02")
}

func TestBytesIsACopy(t *testing.T) {
	w := wire.New()
	w.Text("abc")
	first, second := w.Bytes(), w.Bytes()
	spoil(first)
	if !bytes.Equal(second, raw(t, "03 61 62 63")) {
		t.Errorf("another answer has changed: % x", second)
	}
	wantBytes(t, w, "03 61 62 63")
	w.Byte(5)
	wantBytes(t, w, "03 61 62 63 05")
	last := w.Bytes()
	w.Byte(6)
	spoil(last)
	wantBytes(t, w, "03 61 62 63 05 06")
}

// spoil changes a list, its spare room too.
func spoil(l []byte) {
	l = l[:cap(l)]
	for i := range l {
		l[i] ^= 0xa5
	}
}

// P2.3

func TestReaderNumber(t *testing.T) {
	for _, x := range []struct {
		digits  string
		most, n int
		length  int
	}{
		{"00", 9, 0, 1}, {"00", 0, 0, 1}, {"09", 9, 9, 1}, {"7f", 127, 127, 1}, {"7f", most, 127, 1},
		{"80 01", 128, 128, 2}, {"ac 02", 300, 300, 2}, {"ac 02", most, 300, 2}, {"80 80 01", most, 16384, 3},
		{"ff ff ff ff ff ff ff 7f", most, 1<<56 - 1, 8},
		{"80 80 80 80 80 80 80 80 01", most, 1 << 56, 9},
		{"fe ff ff ff ff ff ff ff 7f", most - 1, most - 1, 9},
		{"ff ff ff ff ff ff ff ff 7f", most, most, 9},
	} {
		for _, behind := range []string{"", "00", "ff", "80 80 80 80 80 80 80 80 80 80"} {
			b := raw(t, x.digits+behind)
			r := wire.NewReader(b)
			if n, err := r.Number(x.most); n != x.n || err != nil {
				t.Errorf("Number(%d) of % x is %d, %v, not %d", x.most, b, n, err, x.n)
			}
			wantPlace(t, r, x.length, len(b)-x.length)
		}
	}
}

var badNumbers = []struct {
	digits string
	most   int
	why    error
}{
	{"", 9, api.ErrShort}, {"80", 9, api.ErrShort}, {"ff", 9, api.ErrShort}, {"", most, api.ErrShort}, {"80 80", most, api.ErrShort},
	{"80 80 80 80 80 80 80", most, api.ErrShort},
	{"ff ff ff ff ff ff ff ff", most, api.ErrShort},
	{"80 80 80 80 80 80 80 80", most, api.ErrShort},
	{"80 80 80 80 80 80 80 80 80", most, api.ErrForm},
	{"ff ff ff ff ff ff ff ff ff", most, api.ErrForm},
	{"ff ff ff ff ff ff ff ff 80", most, api.ErrForm},
	{"ff ff ff ff ff ff ff ff ff 00", most, api.ErrForm},
	{"ff ff ff ff ff ff ff ff ff 01", most, api.ErrForm},
	{"ff ff ff ff ff ff ff ff ff ff ff ff", most, api.ErrForm},
	{"ff ff ff ff ff ff ff ff 00", most, api.ErrForm},
	{"80 00", 9, api.ErrForm}, {"80 00 01", 9, api.ErrForm}, {"81 00", most, api.ErrForm}, {"80 80 80 00", most, api.ErrForm},
	{"ac 02", 200, api.ErrRange}, {"ac 02", 299, api.ErrRange}, {"0a", 9, api.ErrRange}, {"01", 0, api.ErrRange},
	{"ff ff ff ff ff ff ff ff 7f", most - 1, api.ErrRange}, {"ff ff ff ff ff ff ff ff 7f", 0, api.ErrRange},
	{"00", -1, api.ErrRange}, {"00", math.MinInt, api.ErrRange}, {"ac 02", -1, api.ErrRange}, {"01", -2, api.ErrRange},
	// which comes first
	{"", -1, api.ErrShort}, {"80", -1, api.ErrShort}, {"80 00", -1, api.ErrForm},
	{"ff 00", 3, api.ErrForm}, {"ff ff ff ff ff ff ff ff ff", -1, api.ErrForm},
}

func TestReaderRefusesNumbers(t *testing.T) {
	for _, x := range badNumbers {
		b := raw(t, x.digits)
		r := wire.NewReader(b)
		n, err := r.Number(x.most)
		if n != 0 {
			t.Errorf("Number(%d) of % x is %d beside an error", x.most, b, n)
		}
		wantRefusal(t, err, "Number", 0, x.why)
		wantPlace(t, r, 0, len(b))
		wantBroken(t, r, err)
	}
}

// What is no number is no length either: Count and Text refuse it as themselves.
func TestCountAndTextRefuseNumbers(t *testing.T) {
	for _, x := range badNumbers {
		b := raw(t, "05"+x.digits)
		r := wire.NewReader(b)
		r.Byte()
		n, err := r.Count(1, x.most)
		if n != 0 {
			t.Errorf("Count(1, %d) of % x is %d beside an error", x.most, b, n)
		}
		wantRefusal(t, err, "Count", 1, x.why)
		wantPlace(t, r, 1, len(b)-1)
		wantBroken(t, r, err)

		r = wire.NewReader(b)
		r.Byte()
		s, err := r.Text(x.most)
		if s != "" {
			t.Errorf("Text(%d) of % x is %q beside an error", x.most, b, s)
		}
		wantRefusal(t, err, "Text", 1, x.why)
		wantPlace(t, r, 1, len(b)-1)
		wantBroken(t, r, err)
	}
}

// P2.4

func TestCount(t *testing.T) {
	for _, x := range []struct {
		digits      string
		least, most int
		n           int
	}{
		{"02 01 02 03 04 05 06", 3, 100, 2}, {"02 01 02 03 04 05 06 07", 3, 100, 2},
		{"00", 3, 100, 0}, {"00", most, most, 0}, {"00", 1, 0, 0}, {"00", math.MinInt, 0, 0},
		{"01 aa", 1, 1, 1}, {"01 aa", 0, 1, 1}, {"01 aa", -7, 1, 1}, {"01 aa", math.MinInt, 1, 1},
		{"03 aa bb cc", 0, 3, 3}, {"03 aa bb cc", -1, 3, 3}, {"01 aa bb cc", 3, 3, 1},
	} {
		r := wire.NewReader(raw(t, x.digits))
		if n, err := r.Count(x.least, x.most); n != x.n || err != nil {
			t.Errorf("Count(%d, %d) of %s is %d, %v, not %d", x.least, x.most, x.digits, n, err, x.n)
		}
		wantPlace(t, r, 1, len(raw(t, x.digits))-1)
	}
	two := append([]byte{0x80, 1}, make([]byte, 256)...)
	r := wire.NewReader(two)
	if n, err := r.Count(2, 128); n != 128 || err != nil {
		t.Errorf("Count of 128 things of 2 bytes is %d, %v", n, err)
	}
	wantPlace(t, r, 2, 256)
}

func TestCountRefusesWhatHasNoRoom(t *testing.T) {
	greatest := "ff ff ff ff ff ff ff ff 7f"
	for _, x := range []struct {
		digits      string
		least, most int
		why         error
	}{
		{"02 01 02 03 04 05", 3, 100, api.ErrShort},
		{"05", 1, 100, api.ErrShort}, {"05", 0, most, api.ErrShort}, {"05", -3, most, api.ErrShort},
		{"03 aa bb", 0, 3, api.ErrShort}, {"03 aa bb", math.MinInt, 3, api.ErrShort},
		{"01 aa", 2, 1, api.ErrShort}, {"01 aa", most, 1, api.ErrShort},
		// times that go past the greatest number, and round to a small one
		{greatest, most, most, api.ErrShort}, {greatest + "aa", 2, most, api.ErrShort},
		{"80 80 80 80 80 80 80 80 40 aa", 2, most, api.ErrShort}, {"80 80 80 80 80 80 80 80 40 aa", 4, most, api.ErrShort},
		{"80 80 80 80 10 aa", 1 << 32, most, api.ErrShort},
		// the number's own refusals come first
		{"05", 1, 4, api.ErrRange}, {"00", 1, -1, api.ErrRange}, {"85 00", 1, 4, api.ErrForm},
	} {
		b := raw(t, x.digits)
		r := wire.NewReader(b)
		n, err := r.Count(x.least, x.most)
		if n != 0 {
			t.Errorf("Count(%d, %d) of %s is %d beside an error", x.least, x.most, x.digits, n)
		}
		wantRefusal(t, err, "Count", 0, x.why)
		wantPlace(t, r, 0, len(b))
		wantBroken(t, r, err)
	}
}

func TestText(t *testing.T) {
	for _, x := range []struct {
		digits string
		most   int
		s      string
		length int
	}{
		{"02 61 62", 5, "ab", 3}, {"02 61 62", 2, "ab", 3}, {"02 61 62 63", most, "ab", 3},
		{"00", 0, "", 1}, {"00 61", 5, "", 1}, {"01 00", 5, "\x00", 2}, {"02 ff 80", 5, "\xff\x80", 3},
		{"80 01" + strings.Repeat("78", 128), 128, strings.Repeat("x", 128), 130},
	} {
		b := raw(t, x.digits)
		r := wire.NewReader(b)
		if s, err := r.Text(x.most); s != x.s || err != nil {
			t.Errorf("Text(%d) of % x is %q, %v, not %q", x.most, b, s, err, x.s)
		}
		wantPlace(t, r, x.length, len(b)-x.length)
	}
}

func TestTextRefused(t *testing.T) {
	for _, x := range []struct {
		digits string
		most   int
		why    error
	}{
		{"02 61", 5, api.ErrShort}, {"02", 5, api.ErrShort}, {"ff ff ff ff ff ff ff ff 7f 61", most, api.ErrShort},
		{"80 01" + strings.Repeat("78", 127), most, api.ErrShort},
		{"06 61 61 61 61 61 61", 5, api.ErrRange}, {"06", 5, api.ErrRange}, {"00", -1, api.ErrRange}, {"82 00 61 61", 5, api.ErrForm},
	} {
		b := raw(t, x.digits)
		r := wire.NewReader(b)
		s, err := r.Text(x.most)
		if s != "" {
			t.Errorf("Text(%d) of % x is %q beside an error", x.most, b, s)
		}
		wantRefusal(t, err, "Text", 0, x.why)
		wantPlace(t, r, 0, len(b))
		wantBroken(t, r, err)
	}
}

func TestReaderByte(t *testing.T) {
	r := wire.NewReader(raw(t, "00 ff 80"))
	for i, want := range []byte{0, 0xff, 0x80} {
		if b, err := r.Byte(); b != want || err != nil {
			t.Errorf("the byte %d is %d, %v", i, b, err)
		}
		wantPlace(t, r, i+1, 2-i)
	}
	_, err := r.Byte()
	wantRefusal(t, err, "Byte", 3, api.ErrShort)
	wantBroken(t, r, err)
	for _, none := range [][]byte{nil, {}} {
		r := wire.NewReader(none)
		b, err := r.Byte()
		if b != 0 {
			t.Errorf("no byte is %d", b)
		}
		wantRefusal(t, err, "Byte", 0, api.ErrShort)
		wantBroken(t, r, err)
	}
}

func TestEnd(t *testing.T) {
	r := wire.NewReader(raw(t, "05"))
	r.Byte()
	for range 3 {
		if err := r.End(); err != nil {
			t.Errorf("End at the end is %v", err)
		}
		wantPlace(t, r, 1, 0)
	}
	// an End that was nil breaks nothing
	_, err := r.Number(9)
	wantRefusal(t, err, "Number", 1, api.ErrShort)
	wantBroken(t, r, err)
	if err := wire.NewReader(nil).End(); err != nil {
		t.Errorf("End of nothing is %v", err)
	}
	r = wire.NewReader(raw(t, "05 06 07"))
	r.Byte()
	err = r.End()
	wantRefusal(t, err, "End", 1, api.ErrForm)
	wantPlace(t, r, 1, 2)
	wantBroken(t, r, err)
}

// P2.2

func TestPlaceGoesOn(t *testing.T) {
	r := wire.NewReader(raw(t, "07 ac 02 02 61 62 01 80 01 00"))
	wantPlace(t, r, 0, 10)
	if b, err := r.Byte(); b != 7 || err != nil {
		t.Error("Byte", b, err)
	}
	wantPlace(t, r, 1, 9)
	if n, err := r.Number(most); n != 300 || err != nil {
		t.Error("Number", n, err)
	}
	wantPlace(t, r, 3, 7)
	if s, err := r.Text(most); s != "ab" || err != nil {
		t.Error("Text", s, err)
	}
	wantPlace(t, r, 6, 4)
	if n, err := r.Count(3, most); n != 1 || err != nil {
		t.Error("Count", n, err)
	}
	wantPlace(t, r, 7, 3)
	if n, err := r.Number(128); n != 128 || err != nil {
		t.Error("Number", n, err)
	}
	wantPlace(t, r, 9, 1)
	if n, err := r.Number(0); n != 0 || err != nil {
		t.Error("Number", n, err)
	}
	wantPlace(t, r, 10, 0)
	if err := r.End(); err != nil {
		t.Error("End", err)
	}
}

func TestRefusalBehindOthers(t *testing.T) {
	for call, read := range map[string]func(*wire.Reader) error{
		"Number": func(r *wire.Reader) error { _, err := r.Number(100); return err },
		"Count":  func(r *wire.Reader) error { _, err := r.Count(1, 100); return err },
		"Text":   func(r *wire.Reader) error { _, err := r.Text(100); return err },
		"End":    (*wire.Reader).End,
	} {
		why := api.ErrRange
		if call == "End" {
			why = api.ErrForm
		}
		r := wire.NewReader(raw(t, "01 02 03 ac 02 05"))
		for range 3 {
			r.Byte()
		}
		err := read(r)
		wantRefusal(t, err, call, 3, why)
		wantPlace(t, r, 3, 3)
		wantBroken(t, r, err)
	}
}

func TestReadersKnowNothingOfEachOther(t *testing.T) {
	b := raw(t, "01 02")
	one, other := wire.NewReader(b), wire.NewReader(b)
	one.Byte()
	one.End()
	if b, err := other.Byte(); b != 1 || err != nil {
		t.Error("the other Reader's Byte", b, err)
	}
	if b, err := other.Byte(); b != 2 || err != nil || other.End() != nil {
		t.Error("the other Reader's Byte", b, err)
	}
	wantPlace(t, one, 1, 1)
}

// P2.5

func TestNewReaderKeepsACopy(t *testing.T) {
	b := raw(t, "01 02 61 62 aa aa")[:4]
	r := wire.NewReader(b)
	kept := slices.Clone(b[:6])
	spoil(b)
	if n, err := r.Byte(); n != 1 || err != nil {
		t.Error("Byte", n, err)
	}
	s, err := r.Text(9)
	if s != "ab" || err != nil || r.End() != nil {
		t.Error("Text", s, err)
	}
	spoil(b)
	if !bytes.Equal(b[:6], kept) {
		t.Errorf("what was handed in has changed: % x", b[:6])
	}
}

// The examples.

func TestExamples(t *testing.T) {
	r := wire.NewReader(raw(t, "01 02 03 04 09 78"))
	for range 4 {
		r.Byte()
	}
	_, err := r.Text(most)
	if !slices.Equal(fault.Chain(err), []api.Link{{Layer: "wire", Call: "Text", At: 4}}) || !errors.Is(err, api.ErrShort) {
		t.Errorf("a Text cut short at 4 is %v", err)
	}
	if _, err := wire.NewReader([]byte{5}).Count(1, most); fault.Code(err) != api.CodeShort {
		t.Errorf("a Count of 5 with nothing behind it is %v", err)
	}
	var w wire.Writer
	if len(wire.New().Bytes()) != 0 || len(w.Bytes()) != 0 {
		t.Error("an empty Writer has bytes")
	}
}

func TestByteEndByteEnd(t *testing.T) {
	r := wire.NewReader(raw(t, "01 02"))
	if b, err := r.Byte(); b != 1 || err != nil {
		t.Error("Byte", b, err)
	}
	err := r.End()
	wantRefusal(t, err, "End", 1, api.ErrForm)
	if b, again := r.Byte(); b != 0 || again != err {
		t.Error("Byte behind End", b, again)
	}
	if again := r.End(); again != err {
		t.Error("End behind End", again)
	}
}
