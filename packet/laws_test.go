package packet_test

import (
	"bytes"
	"errors"
	"math"
	"math/rand"
	"slices"
	"testing"

	"barrow/api"
	"barrow/fault"
	"barrow/packet"
)

func anyNumber(rnd *rand.Rand) int {
	edges := []int{0, 0, 0, 1, 2, 3, 127, 128, 16383, 16384, 1<<31 - 1, 1 << 31, 1 << 62, most - 1, most}
	if rnd.Intn(4) > 0 {
		return edges[rnd.Intn(len(edges))]
	}
	return rnd.Int() >> rnd.Intn(63)
}

func anyClock(rnd *rand.Rand) (c api.Clock) {
	for i := range rnd.Intn(9) {
		c[i] = anyNumber(rnd)
	}
	return c
}

func anyAct(rnd *rand.Rand) api.Act {
	op := api.Op{Kind: 1 + rnd.Intn(3), At: anyNumber(rnd), Replica: rnd.Intn(8)}
	if op.Kind == api.Insert {
		chars := []rune{0, 'a', 0x7f, 0x80, 0xD7FF, 0xD800, 0xDFFF, 0xE000, 0xFFFF, 0x10000, api.MaxChar}
		op.Char = chars[rnd.Intn(len(chars))]
	}
	return api.Act{Op: op, Number: max(1, anyNumber(rnd)), Clock: anyClock(rnd)}
}

func anyRounds(rnd *rand.Rand) (l api.Rounds) {
	for i := range rnd.Intn(9) {
		if rnd.Intn(3) == 0 {
			continue
		}
		l[i] = api.Round{Number: max(1, anyNumber(rnd)), Cut: anyClock(rnd), Decision: rnd.Intn(3)}
		for k := range rnd.Intn(9) {
			l[i].Votes[k] = rnd.Intn(3)
		}
	}
	return l
}

// anyMessage is a right one.
func anyMessage(rnd *rand.Rand) api.Message {
	m := api.Message{Kind: 1 + rnd.Intn(4), From: rnd.Intn(8), Epoch: anyNumber(rnd)}
	if m.Kind == api.Acts || m.Kind == api.Reply {
		for range rnd.Intn(4) {
			m.Acts = append(m.Acts, anyAct(rnd))
		}
	}
	if m.Kind == api.Digest {
		m.Clock = anyClock(rnd)
	}
	if m.Kind == api.Reply || m.Kind == api.State {
		m.Rounds = anyRounds(rnd)
	}
	return m
}

// spoil makes one number of a message another one, which may be wrong.
func spoil(rnd *rand.Rand, m *api.Message) {
	wrong := []int{-1, 0, 1, 2, 3, 4, 5, 7, 8, math.MinInt, most}
	n := wrong[rnd.Intn(len(wrong))]
	round, i := &m.Rounds[rnd.Intn(8)], rnd.Intn(8)
	places := []*int{&m.Kind, &m.From, &m.Epoch, &m.Clock[i], &round.Number, &round.Cut[i], &round.Votes[i], &round.Decision}
	if len(m.Acts) > 0 {
		act := &m.Acts[rnd.Intn(len(m.Acts))]
		if rnd.Intn(10) == 0 {
			act.Op.Char = rune(n)
			return
		}
		places = append(places, &act.Op.Kind, &act.Op.Replica, &act.Op.At, &act.Number, &act.Clock[i])
	}
	*places[rnd.Intn(len(places))] = n
}

// wantAsRead: Read of b is what the words say, and what follows holds of it.
func wantAsRead(t testing.TB, b []byte) {
	t.Helper()
	plain := &plainReading{raw: b}
	want := plain.message()
	got, err := packet.Read(b)
	if !same(got, want) || (err == nil) != (plain.why == nil) {
		t.Fatalf("% x is read as %v, %v, not as %v, %v", b, got, err, want, plain.why)
	}
	if err != nil {
		if !errors.Is(err, plain.why) || fault.Code(err) != fault.Code(plain.why) || !slices.Equal(fault.Chain(err), plain.chain) {
			t.Fatalf("% x is refused by %v, not by %v at %v", b, err, plain.why, plain.chain)
		}
		return
	}
	again, err := packet.Bytes(got)
	if !packet.Right(got) || err != nil || !bytes.Equal(again, b) || packet.Kind(b) != got.Kind {
		t.Fatalf("% x is read as %v, and that is written as % x, %v", b, got, again, err)
	}
}

// P9.4, W9

func TestThereAndBack(t *testing.T) {
	rnd := rand.New(rand.NewSource(1))
	for range 3000 {
		m := anyMessage(rnd)
		b, err := packet.Bytes(m)
		if err != nil || !packet.Right(m) || !bytes.Equal(b, plainBytes(m)) {
			t.Fatalf("%v is written as % x, %v, not as % x", m, b, err, plainBytes(m))
		}
		if got, err := packet.Read(b); err != nil || !same(got, m) {
			t.Fatalf("%v was written as % x, and read as %v, %v", m, b, got, err)
		}
		if packet.Kind(b) != m.Kind {
			t.Fatalf("the Kind of % x is %d", b, packet.Kind(b))
		}
	}
}

// A beginning is cut short for wire too (P2.8), whatever comes first in it.
func TestBeginningsAreRefused(t *testing.T) {
	rnd := rand.New(rand.NewSource(2))
	for range 300 {
		b, _ := packet.Bytes(anyMessage(rnd))
		for cut := range b {
			m, err := packet.Read(b[:cut])
			if !errors.Is(err, api.ErrShort) || !same(m, api.Message{}) {
				t.Fatalf("% x cut at %d is read as %v, %v", b, cut, m, err)
			}
		}
	}
}

func TestRightByTheWords(t *testing.T) {
	rnd := rand.New(rand.NewSource(3))
	wrong := 0
	for range 20000 {
		m := anyMessage(rnd)
		for range 1 + rnd.Intn(2) {
			spoil(rnd, &m)
		}
		if packet.Right(m) != plainRight(m) {
			t.Fatalf("Right says %v of %v", packet.Right(m), m)
		}
		b, err := packet.Bytes(m)
		if plainRight(m) {
			if err != nil || !bytes.Equal(b, plainBytes(m)) {
				t.Fatalf("%v is written as % x, %v", m, b, err)
			}
			continue
		}
		wrong++
		wantWrong(t, m)
	}
	if wrong < 5000 || wrong > 19000 {
		t.Errorf("%d of 20000 were wrong: too few of one sort", wrong)
	}
}

// All short rows of telling bytes, behind all sorts of beginnings.
func TestShortRowsByTheWords(t *testing.T) {
	tails := []byte{0, 1, 2, 3, 4, 8, 9, 0x80, 0xff}
	var rows func(b []byte, depth int)
	rows = func(b []byte, depth int) {
		wantAsRead(t, b)
		if depth == 0 {
			return
		}
		for _, x := range tails {
			rows(append(b[:len(b):len(b)], x), depth-1)
		}
	}
	for _, head := range []string{
		"", "01 00 00", "02 00 00", "03 00 00", "04 00 00", "02 07 80 01", // heads
		"01 00 00 01 01 00 00", "01 00 00 01 02 00 00", "03 00 00 02 03 07 05 01 01", // acts
		"03 00 00 00", "03 00 00 01 02 00 00 01 00", // a Reply's rounds
		"04 00 00 01 01", "04 00 00 01 01 00", "04 00 00 02 00 01 00 02", "04 00 00 01 01 00 08 00 00 00 00 00 00", // rounds
		"02 00 00 08 01 00 00 00 00", "02 00 00 02 ff ff ff ff ff ff ff", // clocks
	} {
		rows(raw(t, head), 4)
	}
}

// Bytes that were a message's, but for one or a few of them.
func TestSpoiltBytesByTheWords(t *testing.T) {
	rnd := rand.New(rand.NewSource(4))
	for range 1500 {
		b, _ := packet.Bytes(anyMessage(rnd))
		for range 20 {
			wantAsRead(t, spoilt(rnd, b))
		}
	}
}

func spoilt(rnd *rand.Rand, b []byte) []byte {
	b = bytes.Clone(b)
	edges := []byte{0, 1, 2, 3, 4, 5, 7, 8, 9, 0x7f, 0x80, 0x81, 0xff}
	for range 1 + rnd.Intn(3) {
		i, x := rnd.Intn(len(b)+1), edges[rnd.Intn(len(edges))]
		switch {
		case i == len(b) || rnd.Intn(4) == 0:
			b = slices.Insert(b, i, x)
		case rnd.Intn(4) == 0 && len(b) > 1:
			b = slices.Delete(b, i, i+1)
		default:
			b[i] = x
		}
	}
	return b
}

// R1: whatever the bytes are.

func FuzzRead(f *testing.F) {
	for _, m := range allKinds() {
		b, err := packet.Bytes(m)
		if err != nil {
			f.Fatal(err)
		}
		f.Add(b)
	}
	f.Add([]byte{})
	f.Add([]byte{1, 0, 0, 0xff, 0xff, 0xff, 0xff, 7})
	f.Fuzz(func(t *testing.T, b []byte) {
		wantAsRead(t, b)
		for cut := range b {
			if _, err := packet.Read(b[:cut]); err == nil {
				if _, err := packet.Read(b); err == nil {
					t.Fatalf("% x and its beginning of %d bytes are both read", b, cut)
				}
			}
		}
	})
}
