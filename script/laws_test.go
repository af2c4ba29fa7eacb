package script_test

import (
	"bytes"
	"math/rand"
	"slices"
	"testing"

	"barrow/api"
	"barrow/script"
)

// wantScript is P18.4 of a row of bytes, beside the plain reading of it.
func wantScript(t testing.TB, from []byte) {
	t.Helper()
	l := script.Read(from)
	if want := plainRead(from); !slices.Equal(l, want) {
		t.Fatalf("Read of %v is %+v, not %+v", from, l, want)
	}
	for _, s := range l {
		if !script.Plain(s) || script.Text(s) != plainText(s) {
			t.Fatalf("%+v of %v: Plain is %v, Text %q", s, from, script.Plain(s), script.Text(s))
		}
	}
	back := script.Write(l)
	if !bytes.Equal(back, plainWrite(l)) || len(back) > len(from)+5 {
		t.Fatalf("Write of Read of %v is %v", from, back)
	}
	if again := script.Read(back); !slices.Equal(again, l) {
		t.Fatalf("Read of Write of %+v is %+v", l, again)
	}
	// What Write writes is the one form of it.
	if !bytes.Equal(script.Write(script.Read(back)), back) {
		t.Fatalf("%v is not written again", back)
	}
}

// wantSteps is P18.4 of a row of steps, plain or not.
func wantSteps(t testing.TB, l []api.Step) {
	t.Helper()
	var plain []api.Step
	for _, s := range l {
		if script.Plain(s) != plainPlain(s) || script.Text(s) != plainText(s) {
			t.Fatalf("%+v: Plain is %v, Text %q", s, script.Plain(s), script.Text(s))
		}
		if plainPlain(s) {
			plain = append(plain, s)
		}
	}
	from := script.Write(l)
	if !bytes.Equal(from, plainWrite(l)) {
		t.Fatalf("Write of %+v is %v", l, from)
	}
	if got := script.Read(from); !slices.Equal(got, plain) {
		t.Fatalf("Read of %v is %+v, not %+v", from, got, plain)
	}
}

// Every row of up to seven bytes of some that tell apart what can be told apart.
func TestAllShortRows(t *testing.T) {
	telling := raw(0, 2, 4, 16, 207, 208)
	rows := [][]byte{nil}
	for range 7 {
		for _, l := range rows {
			wantScript(t, l)
		}
		var longer [][]byte
		for _, l := range rows {
			for _, b := range telling {
				longer = append(longer, append(slices.Clone(l), b))
			}
		}
		rows = longer
	}
	for _, l := range rows {
		wantScript(t, l)
	}
}

// Each byte, at each place of a step with a Text and of what stands behind it.
func TestEachByteAtEachPlace(t *testing.T) {
	for b := range 256 {
		for place := range 10 {
			from := raw(0, 1, 2, 3, 3, 0, 1, 2, 9, 9)
			from[place] = byte(b)
			wantScript(t, from)
			wantScript(t, from[:place+1])
		}
	}
}

func TestRandomRows(t *testing.T) {
	for seed := range int64(2000) {
		rnd := rand.New(rand.NewSource(seed))
		from := make([]byte, rnd.Intn(400))
		rnd.Read(from)
		if seed%2 == 0 { // more texts, and more that is small
			for i := range from {
				if rnd.Intn(2) == 0 {
					from[i] = byte(rnd.Intn(5))
				}
			}
		}
		wantScript(t, from)
	}
}

// The ends that need the most bytes more: 5 is as many as it can be.
func TestWrittenIsHardlyLonger(t *testing.T) {
	for _, from := range [][]byte{nil, raw(0), raw(4), raw(1), raw(2, 2, 2, 2, 0), raw(0, 0, 0, 0, 1)} {
		if n := len(script.Write(script.Read(from))); n > len(from)+5 {
			t.Errorf("%v is written as %d bytes", from, n)
		}
	}
}

// someStep is mostly plain.
func someStep(rnd *rand.Rand) api.Step {
	numbers := []int{-1, 256, most, least, -256}
	chars := []string{"A", " ", "\xff", "\u00e8", "\u4e17", "\xe9", "\ufffd"}
	number := func() int {
		if rnd.Intn(40) == 0 {
			return numbers[rnd.Intn(len(numbers))]
		}
		return rnd.Intn(256)
	}
	s := api.Step{Kind: rnd.Intn(api.Steps), A: number(), B: number(), C: number()}
	if rnd.Intn(30) == 0 {
		s.Kind = number()
	}
	if rnd.Intn(20) > 0 && s.Kind != api.StepInsert && s.Kind != api.StepRewrite {
		return s
	}
	for range rnd.Intn(17) {
		s.Text += plainChar(byte(rnd.Intn(256)))
	}
	if rnd.Intn(10) == 0 {
		s.Text += chars[rnd.Intn(len(chars))]
	}
	return s
}

func TestRandomSteps(t *testing.T) {
	plain, all := 0, 0
	for seed := range int64(1000) {
		rnd := rand.New(rand.NewSource(seed))
		var l []api.Step
		for range rnd.Intn(40) {
			l = append(l, someStep(rnd))
		}
		wantSteps(t, l)
		for _, s := range l {
			all++
			if script.Plain(s) {
				plain++
			}
		}
	}
	if plain < all/2 || plain > all*9/10 {
		t.Errorf("of %d steps %d are plain", all, plain)
	}
}

func FuzzScript(f *testing.F) {
	f.Add(raw(0, 1, 2, 3, 2, 0, 27))
	f.Add(raw(4, 0, 0, 0, 19, 208, 230, 255, 9))
	f.Add([]byte("any row of bytes is a script"))
	f.Fuzz(func(t *testing.T, from []byte) { wantScript(t, from) })
}

func FuzzStep(f *testing.F) {
	f.Add(0, 1, 2, 3, "ab")
	f.Add(4, 0, 0, 0, "\n\u00e9\u4e16")
	f.Add(14, 256, -1, 0, "A\xff")
	f.Fuzz(func(t *testing.T, kind, a, b, c int, text string) {
		s := api.Step{Kind: kind, A: a, B: b, C: c, Text: text}
		wantSteps(t, row(s, step(api.StepFair, 1, 2, 3), s))
		if script.Name(kind) != plainName(kind) || script.Fold(a, b) != plainFold(a, b) {
			t.Errorf("Name is %q, Fold %d", script.Name(kind), script.Fold(a, b))
		}
	})
}
