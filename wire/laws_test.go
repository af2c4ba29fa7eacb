package wire_test

import (
	"bytes"
	"errors"
	"fmt"
	"math/big"
	"math/rand"
	"strings"
	"testing"

	"barrow/api"
	"barrow/fault"
	"barrow/wire"
)

// thing is what a Writer is told and a Reader reads: 'n' a number, 'c' a count, 't' a text, 'b' a byte.
type thing struct {
	kind byte
	n    int
	s    string
}

// greatNumbers stand at the ends of what so many digits can tell.
func greatNumbers() []int {
	list := []int{0, 1, 2}
	for bits := 6; bits < 63; bits++ {
		list = append(list, 1<<bits-1, 1<<bits, 1<<bits+1)
	}
	return append(list, most-1, most)
}

func anyNumber(rnd *rand.Rand) int {
	if rnd.Intn(3) == 0 {
		great := greatNumbers()
		return great[rnd.Intn(len(great))]
	}
	return rnd.Int() >> rnd.Intn(63)
}

func anyText(rnd *rand.Rand) string {
	length := rnd.Intn(6)
	if rnd.Intn(10) == 0 {
		length = 120 + rnd.Intn(20)
	}
	b := make([]byte, length)
	rnd.Read(b)
	return string(b)
}

func anyThings(rnd *rand.Rand) []thing {
	list := make([]thing, rnd.Intn(8))
	for i := range list {
		switch kind := "ntb"[rnd.Intn(3)]; kind {
		case 'n':
			list[i] = thing{kind: kind, n: anyNumber(rnd)}
		case 't':
			list[i] = thing{kind: kind, s: anyText(rnd)}
		default:
			list[i] = thing{kind: kind, n: rnd.Intn(256)}
		}
	}
	return list
}

func write(t testing.TB, list []thing) []byte {
	w := wire.New()
	for _, x := range list {
		var err error
		switch x.kind {
		case 't':
			err = w.Text(x.s)
		case 'b':
			w.Byte(byte(x.n))
		default:
			err = w.Number(x.n)
		}
		if err != nil {
			t.Fatalf("%v is refused: %v", x, err)
		}
	}
	return w.Bytes()
}

// read reads by the calls that list is made of, and then End; up to the first refusal.
func read(b []byte, list []thing) (got []thing, err error) {
	r := wire.NewReader(b)
	for _, x := range list {
		y := thing{kind: x.kind}
		switch x.kind {
		case 't':
			y.s, err = r.Text(most)
		case 'b':
			var one byte
			one, err = r.Byte()
			y.n = int(one)
		case 'c':
			y.n, err = r.Count(1, most)
		default:
			y.n, err = r.Number(most)
		}
		if err != nil {
			return got, err
		}
		got = append(got, y)
	}
	return got, r.End()
}

func alike(a, b []thing) bool { return fmt.Sprint(a) == fmt.Sprint(b) }

// P2.6, P2.8

func TestThereAndBack(t *testing.T) {
	rnd := rand.New(rand.NewSource(1))
	for range 3000 {
		list := anyThings(rnd)
		b := write(t, list)
		got, err := read(b, list)
		if err != nil || !alike(got, list) {
			t.Fatalf("%v was written as % x, and read as %v, %v", list, b, got, err)
		}
		for cut := range b {
			got, err := read(b[:cut], list)
			if !errors.Is(err, api.ErrShort) || !alike(got, list[:len(got)]) {
				t.Fatalf("%v cut at %d of % x is read as %v, %v", list, cut, b, got, err)
			}
		}
	}
}

func TestEveryGreatNumberThereAndBack(t *testing.T) {
	for _, n := range greatNumbers() {
		b := write(t, []thing{{kind: 'n', n: n}})
		if !bytes.Equal(b, form(n)) {
			t.Errorf("%d has the form % x, not % x", n, b, form(n))
		}
		r := wire.NewReader(b)
		if got, err := r.Number(n); got != n || err != nil || r.End() != nil {
			t.Errorf("Number(%d) of % x is %d, %v", n, b, got, err)
		}
		_, err := wire.NewReader(b).Number(n - 1)
		wantRefusal(t, err, "Number", 0, api.ErrRange)
	}
}

// form is a number's, by great numbers' own division.
func form(n int) (b []byte) {
	rest, low := big.NewInt(int64(n)), new(big.Int)
	for {
		rest.DivMod(rest, big.NewInt(128), low)
		if rest.Sign() == 0 {
			return append(b, byte(low.Int64()))
		}
		b = append(b, byte(low.Int64()+128))
	}
}

func TestCountThereAndBack(t *testing.T) {
	rnd := rand.New(rand.NewSource(2))
	for range 500 {
		least, n := 1+rnd.Intn(5), rnd.Intn(300)
		w := wire.New()
		w.Number(n)
		for range n * least {
			w.Byte(byte(rnd.Intn(256)))
		}
		b := w.Bytes()
		r := wire.NewReader(b)
		if got, err := r.Count(least, n); got != n || err != nil || r.Left() != n*least {
			t.Fatalf("Count(%d, %d) is %d, %v", least, n, got, err)
		}
		if n > 0 {
			_, err := wire.NewReader(b[:len(b)-1]).Count(least, n)
			wantRefusal(t, err, "Count", 0, api.ErrShort)
		}
	}
}

func TestUnlikeRowsHaveUnlikeBytes(t *testing.T) {
	numbers := append(greatNumbers(), 3, 5, 200, 300, 301, 16383, 16384)
	texts := []string{"", "\x00", "\x01", "\x00\x00", "a", "ab", "b", "\x01a", "\x80", "\x80\x01", strings.Repeat("a", 127), strings.Repeat("a", 128)}
	for _, kinds := range []string{"nn", "nt", "tn", "tt"} {
		seen := map[string][]thing{}
		each(kinds, numbers, texts, nil, func(list []thing) {
			b := string(write(t, list))
			if other, there := seen[b]; there && !alike(other, list) {
				t.Fatalf("%v and %v both are % x", other, list, b)
			}
			seen[b] = append([]thing(nil), list...)
		})
	}
}

func each(kinds string, numbers []int, texts []string, list []thing, use func([]thing)) {
	if kinds == "" {
		use(list)
		return
	}
	if kinds[0] == 't' {
		for _, s := range texts {
			each(kinds[1:], numbers, texts, append(list, thing{kind: 't', s: s}), use)
		}
		return
	}
	for _, n := range numbers {
		each(kinds[1:], numbers, texts, append(list, thing{kind: 'n', n: n}), use)
	}
}

// P2.7

func TestOneForm(t *testing.T) {
	edges := []byte{0, 1, 2, 3, 0x7f, 0x80, 0x81, 0xfe, 0xff}
	var rows func(b []byte, depth int)
	rows = func(b []byte, depth int) {
		for _, kinds := range []string{"n", "t", "c", "nn", "nt", "tn", "tt", "bn", "nb", "tb", "nnn", "cnn"} {
			wantOneForm(t, b, kinds)
		}
		if depth == 0 {
			return
		}
		for _, e := range edges {
			rows(append(b[:len(b):len(b)], e), depth-1)
		}
	}
	rows(nil, 4)
}

func wantOneForm(t testing.TB, b []byte, kinds string) {
	t.Helper()
	list := make([]thing, len(kinds))
	for i := range list {
		list[i].kind = kinds[i]
	}
	if got, err := read(b, list); err == nil {
		if again := write(t, got); !bytes.Equal(again, b) {
			t.Fatalf("% x is read as %v, and that is written as % x", b, got, again)
		}
	}
}

// numberByTheWords reads a number as the words of P2.3 say, one behind the other.
func numberByTheWords(b []byte, top int) (n, length int, why error) {
	end := -1
	for i, x := range b {
		if x < 128 {
			end = i
			break
		}
	}
	if end < 0 && len(b) <= 8 {
		return 0, 0, api.ErrShort
	}
	if len(b) >= 9 && b[8] >= 128 && (end < 0 || end > 8) {
		return 0, 0, api.ErrForm
	}
	if b[end] == 0 && end > 0 {
		return 0, 0, api.ErrForm
	}
	sum := new(big.Int)
	for i, x := range b[:end+1] {
		digit := big.NewInt(int64(x & 127))
		sum.Add(sum, digit.Lsh(digit, uint(7*i)))
	}
	if sum.Cmp(big.NewInt(int64(top))) > 0 {
		return 0, 0, api.ErrRange
	}
	return int(sum.Int64()), end + 1, nil
}

func wantNumberByTheWords(t testing.TB, b []byte, top int) {
	t.Helper()
	want, length, why := numberByTheWords(b, top)
	r := wire.NewReader(b)
	n, err := r.Number(top)
	if n != want || r.At() != length || r.Left() != len(b)-length || why == nil && err != nil {
		t.Fatalf("Number(%d) of % x is %d, %v, At %d, not %d, %v, At %d", top, b, n, err, r.At(), want, why, length)
	}
	if why != nil && (fault.Code(err) != fault.Code(why) || err.(*fault.Fault).Call != "Number") {
		t.Fatalf("Number(%d) of % x is refused by %v, not %v", top, b, err, why)
	}
}

func TestNumbersByTheWords(t *testing.T) {
	rnd := rand.New(rand.NewSource(3))
	edges := []byte{0, 1, 0x7f, 0x80, 0x81, 0xff, 0x80, 0xff}
	for range 40000 {
		b := make([]byte, rnd.Intn(12))
		for i := range b {
			b[i] = edges[rnd.Intn(len(edges))]
			if i < len(b)-1 && rnd.Intn(4) > 0 {
				b[i] |= 0x80
			}
		}
		wantNumberByTheWords(t, b, most)
		wantNumberByTheWords(t, b, anyNumber(rnd))
		wantNumberByTheWords(t, b, -anyNumber(rnd)-1)
	}
	for first := range 256 {
		for second := range 256 {
			wantNumberByTheWords(t, []byte{byte(first), byte(second)}, 300)
		}
	}
}

// R1: whatever the bytes and the calls are, they end, and the place stays within the bytes.

func FuzzReader(f *testing.F) {
	f.Add([]byte{}, []byte("nctbe"))
	f.Add([]byte{0xac, 2, 2, 'a', 'b', 7, 1, 9}, []byte("ntbcbe"))
	f.Add(bytes.Repeat([]byte{0xff}, 20), []byte("bnbn"))
	f.Fuzz(func(t *testing.T, b, calls []byte) {
		r := wire.NewReader(b)
		var first error
		for _, call := range calls {
			at := r.At()
			var err error
			switch call % 5 {
			case 0:
				_, err = r.Number(int(call) << (call % 64))
			case 1:
				_, err = r.Count(int(call)-128, most)
			case 2:
				_, err = r.Text(most)
			case 3:
				_, err = r.Byte()
			default:
				err = r.End()
			}
			if first != nil && err != first {
				t.Fatalf("%v behind the refusal %v", err, first)
			}
			if err != nil && r.At() != at {
				t.Fatalf("a refusal moves the place from %d to %d", at, r.At())
			}
			first = err
			if r.At() < at || r.At()+r.Left() != len(b) || r.Left() < 0 {
				t.Fatalf("At %d, Left %d of %d bytes", r.At(), r.Left(), len(b))
			}
		}
		for _, kinds := range []string{"n", "t", "nn", "tn", "cnb"} {
			wantOneForm(t, b, kinds)
		}
		wantNumberByTheWords(t, b, most)
	})
}
