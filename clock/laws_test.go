package clock_test

import (
	"math/big"
	"math/rand"
	"strconv"
	"strings"
	"testing"

	"barrow/api"
	"barrow/clock"
)

// anyEntry is a small number, or one near an end of what an int can be.
func anyEntry(rnd *rand.Rand) int {
	switch rnd.Intn(8) {
	case 0:
		return most - rnd.Intn(3)
	case 1:
		return least + rnd.Intn(3)
	case 2:
		return int(rnd.Uint64()) >> rnd.Intn(64)
	}
	return rnd.Intn(5) - 2
}

func anyClock(rnd *rand.Rand) (a api.Clock) {
	for r := range a {
		a[r] = anyEntry(rnd)
	}
	return a
}

// near is a clock that differs from a in few entries, so that one often covers the other.
func near(rnd *rand.Rand, a api.Clock) api.Clock {
	for range rnd.Intn(3) {
		a[rnd.Intn(len(a))] = anyEntry(rnd)
	}
	return a
}

func coversByTheWords(a, b api.Clock) bool {
	for r := range a {
		if a[r] < b[r] {
			return false
		}
	}
	return true
}

func compareByTheWords(a, b api.Clock) int {
	below, above := coversByTheWords(b, a), coversByTheWords(a, b)
	switch {
	case below && above:
		return api.Same
	case below:
		return api.Before
	case above:
		return api.After
	}
	return api.Apart
}

// smallClocks are all that have -1 to 2 at three places, and 0 elsewhere.
func smallClocks() (list []api.Clock) {
	for i := -1; i <= 2; i++ {
		for j := -1; j <= 2; j++ {
			for k := -1; k <= 2; k++ {
				list = append(list, of(i, 0, 0, j, 0, 0, 0, k))
			}
		}
	}
	return list
}

// eachThree tells clocks three by three: all small ones, then many great ones.
func eachThree(use func(a, b, c api.Clock)) {
	small := smallClocks()
	for _, a := range small {
		for _, b := range small {
			for _, c := range small {
				use(a, b, c)
			}
		}
	}
	rnd := rand.New(rand.NewSource(1))
	for range 30000 {
		a := anyClock(rnd)
		b := near(rnd, a)
		use(a, b, near(rnd, b))
		use(a, anyClock(rnd), near(rnd, a))
	}
}

// P3.1, P3.6

func TestOrderByTheWords(t *testing.T) {
	eachThree(func(a, b, c api.Clock) {
		if clock.Covers(a, b) != coversByTheWords(a, b) || clock.Covers(c, a) != coversByTheWords(c, a) {
			t.Fatalf("Covers of %v, %v, %v", a, b, c)
		}
		if clock.Compare(a, b) != compareByTheWords(a, b) || clock.Compare(b, c) != compareByTheWords(b, c) {
			t.Fatalf("Compare of %v, %v, %v", a, b, c)
		}
	})
}

func TestCoversIsAnOrder(t *testing.T) {
	eachThree(func(a, b, c api.Clock) {
		if !clock.Covers(a, a) {
			t.Fatalf("%v does not cover itself", a)
		}
		if clock.Covers(a, b) && clock.Covers(b, a) != (a == b) {
			t.Fatalf("%v and %v cover each other", a, b)
		}
		if clock.Covers(a, b) && clock.Covers(b, c) && !clock.Covers(a, c) {
			t.Fatalf("%v covers %v, and that %v, but not the first one the last", a, b, c)
		}
	})
}

func TestMergeIsTheLeastThatCoversBoth(t *testing.T) {
	eachThree(func(a, b, c api.Clock) {
		m := clock.Merge(a, b)
		if !coversByTheWords(m, a) || !coversByTheWords(m, b) {
			t.Fatalf("Merge(%v, %v) is %v, which doesn't cover both", a, b, m)
		}
		if coversByTheWords(c, a) && coversByTheWords(c, b) && !coversByTheWords(c, m) {
			t.Fatalf("Merge(%v, %v) is %v, but %v covers both", a, b, m, c)
		}
	})
}

func TestMeetIsTheGreatestThatBothCover(t *testing.T) {
	eachThree(func(a, b, c api.Clock) {
		m := clock.Meet(a, b)
		if !coversByTheWords(a, m) || !coversByTheWords(b, m) {
			t.Fatalf("Meet(%v, %v) is %v, which both don't cover", a, b, m)
		}
		if coversByTheWords(a, c) && coversByTheWords(b, c) && !coversByTheWords(m, c) {
			t.Fatalf("Meet(%v, %v) is %v, but both cover %v", a, b, m, c)
		}
	})
}

func TestCompareBothWays(t *testing.T) {
	back := map[int]int{api.Same: api.Same, api.Before: api.After, api.After: api.Before, api.Apart: api.Apart}
	met := map[int]int{}
	eachThree(func(a, b, _ api.Clock) {
		there := clock.Compare(a, b)
		if clock.Compare(b, a) != back[there] {
			t.Fatalf("Compare(%v, %v) is %d, the other way %d", a, b, there, clock.Compare(b, a))
		}
		met[there]++
	})
	if len(met) != 4 {
		t.Errorf("only %v were met", met)
	}
}

func TestMostAndLeastByMergeAndMeet(t *testing.T) {
	eachThree(func(a, b, c api.Clock) {
		l := []api.Clock{a, b, c}
		if clock.Most(l) != clock.Merge(clock.Merge(a, b), c) || clock.Least(l) != clock.Meet(clock.Meet(a, b), c) {
			t.Fatalf("Most is %v, Least is %v of %v", clock.Most(l), clock.Least(l), l)
		}
	})
}

// P3.4, P3.7

func lagByTheWords(have, want api.Clock) int {
	sum := new(big.Int)
	for r := range want {
		if want[r] > have[r] {
			sum.Add(sum, big.NewInt(int64(want[r])))
			sum.Sub(sum, big.NewInt(int64(have[r])))
		}
	}
	if !sum.IsInt64() {
		return most
	}
	return int(sum.Int64())
}

func TestLagByTheWords(t *testing.T) {
	eachThree(func(a, b, _ api.Clock) {
		got := clock.Lag(a, b)
		if got != lagByTheWords(a, b) {
			t.Fatalf("Lag(%v, %v) is %d, not %d", a, b, got, lagByTheWords(a, b))
		}
		if (got == 0) != coversByTheWords(a, b) {
			t.Fatalf("Lag(%v, %v) is %d", a, b, got)
		}
	})
}

// P3.2, P3.3

// readyByTheWords asks what P3.3 says, one behind the other, with numbers that have no end.
func readyByTheWords(have api.Clock, x api.Act) bool {
	r := x.Op.Replica
	if r < 0 || r > 7 {
		return false
	}
	next := new(big.Int).Add(big.NewInt(int64(have[r])), big.NewInt(1))
	last := new(big.Int).Sub(big.NewInt(int64(x.Number)), big.NewInt(1))
	return next.Cmp(big.NewInt(int64(x.Number))) == 0 && x.Number >= 1 && last.Cmp(big.NewInt(int64(x.Clock[r]))) == 0 && coversByTheWords(have, x.Clock)
}

func TestReadyByTheWords(t *testing.T) {
	rnd := rand.New(rand.NewSource(2))
	ready := 0
	for range 200000 {
		have := anyClock(rnd)
		x := act(rnd.Intn(10)-1, anyEntry(rnd), near(rnd, have))
		if r := x.Op.Replica; r >= 0 && r < len(have) && rnd.Intn(4) > 0 {
			x.Number = have[r] + 1
		}
		want := readyByTheWords(have, x)
		if clock.Ready(have, x) != want {
			t.Fatalf("Ready(%v, %v) is not %v", have, x, want)
		}
		if want {
			ready++
		}
	}
	if ready < 1000 {
		t.Errorf("only %d acts were ready", ready)
	}
}

// What a site ticks is what others are ready for, and what it has then.
func TestTickedActsAreReady(t *testing.T) {
	rnd := rand.New(rand.NewSource(3))
	for range 10000 {
		have := anyClock(rnd)
		r := rnd.Intn(len(have))
		have[r] = rnd.Intn(5)
		next, err := clock.Tick(have, r)
		if err != nil || !clock.Ready(have, act(r, next[r], have)) || clock.Has(have, r, next[r]) || !clock.Has(next, r, next[r]) || clock.Compare(have, next) != api.Before || clock.Lag(have, next) != 1 {
			t.Fatalf("Tick(%v, %d) is %v, %v", have, r, next, err)
		}
	}
}

// P3.5

// isText: is s as P3.5 says, by its parts?
func isText(s string) bool {
	parts := strings.Split(s, ".")
	if len(parts) > 8 {
		return false
	}
	for _, part := range parts {
		if part == "" || strings.Trim(part, "0123456789") != "" || part[0] == '0' && part != "0" {
			return false
		}
		if n, ok := new(big.Int).SetString(part, 10); !ok || !n.IsInt64() {
			return false
		}
	}
	return true
}

// isBeginning: is s a text, or can it become one? Behind a point, and at the front, a nought will do.
func isBeginning(s string) bool { return isText(s) || isText(s+"0") }

func wantParsedByTheWords(t testing.TB, s string) {
	t.Helper()
	if isText(s) {
		a, n, err := clock.Parse(s)
		if err != nil || clock.Text(a, n) != s || n != strings.Count(s, ".")+1 || !clock.Valid(a, n) {
			t.Fatalf("Parse(%q) is %v, %d, %v", s, a, n, err)
		}
		return
	}
	at := 0
	for at < len(s) && isBeginning(s[:at+1]) {
		at++
	}
	wantUnparsed(t, s, at)
	if t.Failed() {
		t.Fatalf("Parse(%q)", s)
	}
}

func TestParseByTheWords(t *testing.T) {
	var rows func(s string, depth int)
	rows = func(s string, depth int) {
		wantParsedByTheWords(t, s)
		if depth == 0 {
			return
		}
		for _, next := range []string{"0", "1", "9", ".", "x", "-"} {
			rows(s+next, depth-1)
		}
	}
	rows("", 6)
	rows("1.0.2.10.4.5.", 4)
	rows("922337203685477580", 3)
	rows("0.922337203685477580", 3)
	for last := range 256 {
		wantParsedByTheWords(t, string([]byte{byte(last)}))
		wantParsedByTheWords(t, string([]byte{'1', byte(last)}))
		wantParsedByTheWords(t, string([]byte{'1', '.', byte(last)}))
	}
}

func TestTextThereAndBack(t *testing.T) {
	rnd := rand.New(rand.NewSource(4))
	for range 20000 {
		var a api.Clock
		entries := 1 + rnd.Intn(len(a))
		for r := range entries {
			a[r] = max(anyEntry(rnd), 0)
		}
		s := clock.Text(a, entries)
		got, n, err := clock.Parse(s)
		if got != a || n != entries || err != nil {
			t.Fatalf("%v was written as %q, and read as %v, %d, %v", a, s, got, n, err)
		}
		spoilt := []byte(s)
		spoilt[rnd.Intn(len(s))] = "0123456789.x"[rnd.Intn(12)]
		wantParsedByTheWords(t, string(spoilt))
		wantParsedByTheWords(t, s+"."+s)
		wantParsedByTheWords(t, s+strconv.Itoa(anyEntry(rnd)))
	}
}

// R1: whatever the text is, Parse ends as the words say.

func FuzzParse(f *testing.F) {
	for _, s := range []string{"", "3.0.12", "1.", "01", "9223372036854775808", "1.2.3.4.5.6.7.8.9"} {
		f.Add(s)
	}
	f.Fuzz(func(t *testing.T, s string) { wantParsedByTheWords(t, s) })
}
