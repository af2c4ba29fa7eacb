package tree_test

import (
	"fmt"
	"math/rand"
	"slices"
	"testing"

	"barrow/api"
	"barrow/tree"
)

// weightOf is the sum of the elements' weights, number by number.
func weightOf(l []thing) (w api.Weight) {
	for _, e := range l {
		w.Live += e.live
		w.Lines += e.lines
	}
	return w
}

// findByTheWords is the i of P4.3, sought from one end to the other.
func findByTheWords(l []thing, count int, part func(api.Weight) int) int {
	for i := range l {
		if part(weightOf(l[:i])) <= count && part(weightOf(l[:i+1])) > count {
			return i
		}
	}
	return -1
}

func live(w api.Weight) int  { return w.Live }
func lines(w api.Weight) int { return w.Lines }

func wantFound(t *testing.T, l []thing, got int, err error, count int, part func(api.Weight) int) {
	t.Helper()
	if err != nil || got != findByTheWords(l, count, part) || part(l[got].Weight()) <= 0 {
		t.Errorf("at %d is found %d, %v, not %d", count, got, err, findByTheWords(l, count, part))
	}
}

// wantLaws holds P4.2, P4.3, P4.5 and P4.7 for a tree that shall have the row l.
func wantLaws(t *testing.T, x *tree.Tree[thing], chunk int, l []thing) {
	t.Helper()
	wantRow(t, x, l)
	wantChunks(t, x, chunk)
	for i := range len(l) + 1 {
		w, err := x.Before(i)
		rest := weightOf(l[i:])
		if err != nil || w != weightOf(l[:i]) || (api.Weight{Live: w.Live + rest.Live, Lines: w.Lines + rest.Lines}) != x.Weight() {
			t.Errorf("Before(%d) is %v, %v", i, w, err)
		}
		if i == len(l) {
			break
		}
		if e, err := x.At(i); err != nil || e != l[i] {
			t.Errorf("At(%d) is %v, %v, not %v", i, e, err, l[i])
		}
	}
	for k := range x.Weight().Live {
		i, err := x.Find(k)
		wantFound(t, l, i, err, k, live)
	}
	for k := range x.Weight().Lines {
		i, err := x.FindLine(k)
		wantFound(t, l, i, err, k, lines)
	}
	_, err := x.Find(x.Weight().Live)
	wantRefusal(t, err, "Find", x.Weight().Live, api.ErrRange)
	_, err = x.FindLine(x.Weight().Lines)
	wantRefusal(t, err, "FindLine", x.Weight().Lines, api.ErrRange)
}

// play does to a tree and to a plain list what the bytes say.
func play(t *testing.T, chunk int, raw []byte, check func(x *tree.Tree[thing], l []thing)) {
	x := made(t, chunk, nil)
	var l []thing
	name := 0
	for len(raw) >= 3 {
		kind, a, b := raw[0], int(raw[1]), int(raw[2])
		raw = raw[3:]
		at := a * (len(l) + 1) / 256
		switch kind % 4 {
		case 0, 1:
			more := make([]thing, b%(2+int(kind)/2))
			for i := range more {
				name++
				more[i] = thing{name, name * b % 3, name * a % 2}
			}
			wantDone(t, x.Insert(at, more...))
			l = slices.Insert(l, at, more...)
		case 2:
			n := min(b%(2+int(kind)/2), len(l)-at)
			wantDone(t, x.Remove(at, n))
			l = slices.Delete(l, at, at+n)
		case 3:
			if at < len(l) {
				name++
				l[at] = thing{name, b % 4, b % 2}
				wantDone(t, x.Set(at, l[at]))
			}
		}
		check(x, l)
	}
}

func TestLaws(t *testing.T) {
	for seed := range 200 {
		rnd := rand.New(rand.NewSource(int64(seed)))
		chunk := 2 + rnd.Intn(8)
		if seed%5 == 0 {
			chunk = 2 + rnd.Intn(63)
		}
		raw := make([]byte, 3*(1+rnd.Intn(40)))
		rnd.Read(raw)
		if seed%2 == 0 {
			for i := 0; i < len(raw); i += 3 {
				raw[i] %= 16
			}
		}
		play(t, chunk, raw, func(x *tree.Tree[thing], l []thing) {
			wantRow(t, x, l)
			wantChunks(t, x, chunk)
			if len(l) < 60 {
				wantLaws(t, x, chunk, l)
			}
		})
	}
}

// A long row, changed in small steps: that the leaves stay right, and are found.
func TestLongRow(t *testing.T) {
	for _, chunk := range []int{2, 5, 64} {
		rnd := rand.New(rand.NewSource(int64(chunk)))
		x := made(t, chunk, nil)
		var l []thing
		for k := range 6000 {
			at := rnd.Intn(len(l) + 1)
			switch {
			case rnd.Intn(3) > 0:
				e := thing{k, rnd.Intn(3), rnd.Intn(2)}
				wantDone(t, x.Insert(at, e))
				l = slices.Insert(l, at, e)
			default:
				n := min(rnd.Intn(3), len(l)-at)
				wantDone(t, x.Remove(at, n))
				l = slices.Delete(l, at, at+n)
			}
			if k%100 == 0 {
				wantChunks(t, x, chunk)
			}
		}
		wantRow(t, x, l)
		wantChunks(t, x, chunk)
		var ahead api.Weight
		for i, e := range l {
			if w, err := x.Before(i); w != ahead || err != nil {
				t.Fatalf("Before(%d) is %v, %v, not %v", i, w, err, ahead)
			}
			for k := range e.live {
				if got, err := x.Find(ahead.Live + k); got != i || err != nil {
					t.Fatalf("Find(%d) is %d, %v, not %d", ahead.Live+k, got, err, i)
				}
			}
			for k := range e.lines {
				if got, err := x.FindLine(ahead.Lines + k); got != i || err != nil {
					t.Fatalf("FindLine(%d) is %d, %v, not %d", ahead.Lines+k, got, err, i)
				}
			}
			ahead.Live += e.live
			ahead.Lines += e.lines
		}
	}
}

// step is an Insert of more elements at a place, or a Remove of them if it is below 0.
type step struct{ at, more int }

func played(t *testing.T, chunk int, way []step) *tree.Tree[thing] {
	x := made(t, chunk, nil)
	for k, s := range way {
		if s.more > 0 {
			wantDone(t, x.Insert(s.at, ones(100*k, s.more)...))
		} else {
			wantDone(t, x.Remove(s.at, -s.more))
		}
	}
	return x
}

// stepsFrom are all steps from one length to another that is at most longest.
func stepsFrom(length, longest int) []step {
	var l []step
	for at := range length + 1 {
		for more := 1; length+more <= longest; more++ {
			l = append(l, step{at, more})
		}
		for less := 1; at+less <= length; less++ {
			l = append(l, step{at, -less})
		}
	}
	return l
}

// Every way to cut a short row that any steps lead to is right.
func TestChunksOnAllWays(t *testing.T) {
	for chunk, longest := range map[int]int{2: 9, 3: 12, 4: 14, 5: 15, 8: 20} {
		seen := map[string]int{}
		ways := [][]step{nil}
		for len(ways) > 0 && !t.Failed() {
			way := ways[0]
			ways = ways[1:]
			for _, s := range stepsFrom(played(t, chunk, way).Len(), longest) {
				longer := append(slices.Clone(way), s)
				x := played(t, chunk, longer)
				wantChunks(t, x, chunk)
				cuts := fmt.Sprint(x.Chunks())
				if seen[cuts] == 0 {
					seen[cuts] = 1
					ways = append(ways, longer)
				}
			}
		}
	}
}

func FuzzTree(f *testing.F) {
	f.Add(byte(0), []byte{250, 0, 99, 2, 100, 3, 3, 100, 7, 1, 255, 1})
	f.Add(byte(62), []byte{252, 0, 100, 252, 128, 110, 254, 3, 90, 254, 2, 1})
	f.Fuzz(func(t *testing.T, chunk byte, raw []byte) {
		size := 2 + int(chunk)%63
		play(t, size, raw[:min(len(raw), 300)], func(x *tree.Tree[thing], l []thing) {
			wantRow(t, x, l)
			wantChunks(t, x, size)
			if len(l) < 40 {
				wantLaws(t, x, size, l)
			}
		})
	})
}
