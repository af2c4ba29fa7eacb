package clock_test

import (
	"math"
	"slices"
	"strings"
	"testing"

	"barrow/api"
	"barrow/clock"
	"barrow/fault"
)

const (
	most  = math.MaxInt
	least = math.MinInt
)

// of is a clock by its first entries.
func of(entries ...int) (a api.Clock) {
	copy(a[:], entries)
	return a
}

// all is a clock of eight like entries.
func all(n int) (a api.Clock) {
	for r := range a {
		a[r] = n
	}
	return a
}

// one is a clock with an entry at one place.
func one(replica, n int) (a api.Clock) {
	a[replica] = n
	return a
}

func act(replica, number int, a api.Clock) api.Act {
	return api.Act{Op: api.Op{Kind: api.Insert, Char: 'x', Replica: replica}, Number: number, Clock: a}
}

func wantRefusal(t testing.TB, err error, call string, at int, why error) {
	t.Helper()
	f, ok := err.(*fault.Fault)
	if !ok || *f != (fault.Fault{Layer: "clock", Call: call, At: at, Why: why}) {
		t.Errorf("the error is %v, not clock.%s at %d: %v", err, call, at, why)
	}
}

func wantBool(t *testing.T, what string, got, want bool) {
	t.Helper()
	if got != want {
		t.Errorf("%s is %v, not %v", what, got, want)
	}
}

func wantClock(t *testing.T, what string, got, want api.Clock) {
	t.Helper()
	if got != want {
		t.Errorf("%s is %v, not %v", what, got, want)
	}
}

// P3.1

func TestCovers(t *testing.T) {
	for _, x := range []struct {
		a, b api.Clock
		want bool
	}{
		{of(), of(), true}, {of(4), of(4), true}, {of(1, 3), of(1, 2), true}, {of(1, 2), of(1, 3), false},
		{of(1, 3), of(2, 2), false}, {of(2, 2), of(1, 3), false}, {of(), of(-1), true}, {of(-1), of(), false},
		{all(most), all(least), true}, {all(least), all(most), false}, {of(9, 9, 9), of(0, 0, 10), false},
	} {
		if got := clock.Covers(x.a, x.b); got != x.want {
			t.Errorf("Covers(%v, %v) is %v", x.a, x.b, got)
		}
	}
}

func TestCompare(t *testing.T) {
	for _, x := range []struct {
		a, b api.Clock
		want int
	}{
		{of(1, 2), of(1, 2), api.Same}, {of(1, 2), of(1, 3), api.Before}, {of(1, 3), of(1, 2), api.After}, {of(1, 3), of(2, 2), api.Apart},
		{of(), of(), api.Same}, {of(-1), of(), api.Before}, {of(), of(-1), api.After}, {of(-1, 1), of(), api.Apart},
		{all(least), all(most), api.Before}, {all(most), all(least), api.After}, {all(least), all(least), api.Same},
	} {
		if got := clock.Compare(x.a, x.b); got != x.want {
			t.Errorf("Compare(%v, %v) is %d, not %d", x.a, x.b, got, x.want)
		}
	}
}

func TestEveryEntryCounts(t *testing.T) {
	for r := range api.MaxReplicas {
		low, high := one(r, -1), one(r, 1)
		wantBool(t, "Covers", clock.Covers(high, low), true)
		wantBool(t, "Covers the other way", clock.Covers(low, high), false)
		if clock.Compare(low, high) != api.Before || clock.Compare(high, low) != api.After {
			t.Errorf("Compare does not see entry %d", r)
		}
		for other := range api.MaxReplicas {
			if other != r && clock.Compare(high, one(other, 1)) != api.Apart {
				t.Errorf("entries %d and %d are not Apart", r, other)
			}
		}
		wantClock(t, "Merge", clock.Merge(low, high), high)
		wantClock(t, "Meet", clock.Meet(high, low), low)
	}
}

func TestMergeAndMeet(t *testing.T) {
	wantClock(t, "Merge", clock.Merge(of(1, 5), of(3, 2)), of(3, 5))
	wantClock(t, "Meet", clock.Meet(of(1, 5), of(3, 2)), of(1, 2))
	wantClock(t, "Merge below 0", clock.Merge(of(-4, 1), of(-3, -1)), of(-3, 1))
	wantClock(t, "Meet below 0", clock.Meet(of(-4, 1), of(-3, -1)), of(-4, -1))
	wantClock(t, "Merge of the greatest", clock.Merge(all(least), all(most)), all(most))
	wantClock(t, "Meet of the greatest", clock.Meet(all(least), all(most)), all(least))
}

func TestMostAndLeast(t *testing.T) {
	l := []api.Clock{of(1, 5), of(3, 2), of(2, 2, 9)}
	kept := slices.Clone(l)
	wantClock(t, "Most", clock.Most(l), of(3, 5, 9))
	wantClock(t, "Least", clock.Least(l), of(1, 2, 0))
	if !slices.Equal(l, kept) {
		t.Errorf("the list has become %v", l)
	}
	for _, none := range [][]api.Clock{nil, {}} {
		wantClock(t, "Most of none", clock.Most(none), of())
		wantClock(t, "Least of none", clock.Least(none), of())
	}
	// The zero clock is no part of a list that doesn't have it.
	wantClock(t, "Most of one", clock.Most([]api.Clock{all(-3)}), all(-3))
	wantClock(t, "Least of one", clock.Least([]api.Clock{all(3)}), all(3))
	wantClock(t, "Most below 0", clock.Most([]api.Clock{all(-3), all(-5)}), all(-3))
	wantClock(t, "Least above 0", clock.Least([]api.Clock{all(3), all(5)}), all(3))
	for place := range 5 {
		far := []api.Clock{all(1), all(1), all(1), all(1), all(1)}
		far[place] = all(7)
		wantClock(t, "Most", clock.Most(far), all(7))
		far[place] = all(-7)
		wantClock(t, "Least", clock.Least(far), all(-7))
	}
}

// P3.2

func TestTick(t *testing.T) {
	for r := range api.MaxReplicas {
		for _, n := range []int{least, -2, -1, 0, 1, 41, most - 1} {
			a := all(5)
			a[r] = n
			want := a
			want[r] = n + 1
			got, err := clock.Tick(a, r)
			if got != want || err != nil {
				t.Errorf("Tick(%v, %d) is %v, %v", a, r, got, err)
			}
		}
	}
}

func TestTickRefuses(t *testing.T) {
	for _, r := range []int{8, 9, 1 << 40, most, -1, -2, -8, least} {
		got, err := clock.Tick(of(1, 2), r)
		wantClock(t, "a refused Tick", got, of())
		wantRefusal(t, err, "Tick", max(r, -1), api.ErrArg)
	}
	for r := range api.MaxReplicas {
		got, err := clock.Tick(one(r, most), r)
		wantClock(t, "a refused Tick", got, of())
		wantRefusal(t, err, "Tick", r, api.ErrArg)
		other := (r + 1) % api.MaxReplicas
		if got, err := clock.Tick(one(r, most), other); err != nil || got[other] != 1 || got[r] != most {
			t.Errorf("Tick of another entry is %v, %v", got, err)
		}
	}
}

func TestHas(t *testing.T) {
	for _, x := range []struct {
		a               api.Clock
		replica, number int
		want            bool
	}{
		{of(2, 0), 0, 1, true}, {of(2, 0), 0, 2, true}, {of(2, 0), 0, 3, false}, {of(2, 0), 0, 0, false}, {of(2, 0), 0, -1, false},
		{of(2, 0), 1, 1, false}, {of(2, 0), 1, 0, false}, {of(2, 0), 8, 1, false}, {of(2, 0), -1, 1, false}, {of(2, 0), most, 1, false},
		{of(2, 0), least, 1, false}, {one(7, 1), 7, 1, true}, {one(7, 1), 7, 2, false}, {of(most), 0, most, true}, {of(most - 1), 0, most, false},
		{of(-1), 0, -1, false}, {of(-1), 0, 0, false}, {of(-5), 0, -6, false}, {of(least), 0, least, false}, {of(most), 0, least, false},
	} {
		if got := clock.Has(x.a, x.replica, x.number); got != x.want {
			t.Errorf("Has(%v, %d, %d) is %v", x.a, x.replica, x.number, got)
		}
	}
}

// P3.3

func TestReady(t *testing.T) {
	for _, x := range []struct {
		have api.Clock
		act  api.Act
		want bool
	}{
		{of(1, 0), act(0, 2, of(1, 0)), true}, {of(1, 0), act(0, 2, of(1, 1)), false}, {of(1, 0), act(0, 3, of(2, 0)), false},
		{of(1, 4), act(0, 2, of(1, 3)), true}, {of(), act(0, 1, of()), true}, {of(), act(7, 1, of()), true},
		{of(1), act(0, 1, of(0)), false}, {of(1), act(0, 2, of(0)), false}, {of(1), act(0, 2, of(2)), false},
		{of(0, 3), act(1, 4, of(0, 3, 1)), false}, {of(0, 3, 1), act(1, 4, of(0, 3, 1)), true},
		{of(1), act(0, 2, of(1, -5)), true}, {of(1, -5), act(0, 2, of(1)), false}, {of(1, -5), act(0, 2, of(1, -5)), true},
		{of(), act(8, 1, of()), false}, {of(), act(-1, 1, of()), false}, {of(), act(most, 1, of()), false}, {of(), act(least, 1, of()), false},
		{of(-1), act(0, 0, of(-1)), false}, {of(-2), act(0, -1, of(-2)), false}, {of(least), act(0, least+1, of(least)), false},
		{of(most), act(0, least, of(most)), false}, {of(most), act(0, most, of(most-1)), false}, {of(most - 1), act(0, most, of(most-1)), true},
		{all(most), act(3, least, all(most)), false},
	} {
		if got := clock.Ready(x.have, x.act); got != x.want {
			t.Errorf("Ready(%v, %v) is %v", x.have, x.act, got)
		}
	}
}

func TestReadyHangsOnTheReplicaOfTheAct(t *testing.T) {
	have := of(3, 1, 4, 1, 5, 9, 2, 6)
	for r := range api.MaxReplicas {
		for number := -1; number < 12; number++ {
			wantBool(t, "Ready", clock.Ready(have, act(r, number, have)), number == have[r]+1)
		}
		for other := range api.MaxReplicas {
			lacking := have
			lacking[other]++
			wantBool(t, "Ready for more than was delivered", clock.Ready(have, act(r, have[r]+1, lacking)), false)
			lacking[other] -= 2
			wantBool(t, "Ready for less than was delivered", clock.Ready(have, act(r, have[r]+1, lacking)), other != r)
		}
	}
}

// P3.4

func TestLag(t *testing.T) {
	for _, x := range []struct {
		have, want api.Clock
		lag        int
	}{
		{of(1, 0), of(3, 2), 4}, {of(5, 5), of(3, 2), 0}, {of(), of(), 0}, {of(9, 0), of(0, 9), 9}, {of(-2), of(3), 5}, {of(3), of(-2), 0},
		{all(1), all(2), 8}, {of(), all(1 << 62), most}, {of(), of(1<<62, 1<<62), most}, {of(), of(1<<62, 1<<62-1), most}, {of(), of(1<<62, 1<<62-2), most - 1},
		{of(), of(most), most}, {of(), of(most, 1), most}, {of(), of(1, most), most}, {of(1), of(most), most - 1}, {of(1), of(most, 1), most}, {of(1), of(most, 2), most},
		{of(-1), of(most), most}, {of(-1), of(most - 1), most}, {of(-1), of(most - 2), most - 1}, {of(least), of(most), most}, {of(least), of(), most}, {of(least), of(-1), most},
		{of(least), of(-2), most - 1}, {all(least), all(most), most}, {all(most), all(least), 0}, {of(least, 0), of(least, 1), 1}, {of(least, most), of(-1, least), most},
	} {
		if got := clock.Lag(x.have, x.want); got != x.lag {
			t.Errorf("Lag(%v, %v) is %d, not %d", x.have, x.want, got, x.lag)
		}
	}
	for r := range api.MaxReplicas {
		if got := clock.Lag(of(), one(r, r+1)); got != r+1 {
			t.Errorf("Lag of entry %d is %d", r, got)
		}
	}
}

func TestValid(t *testing.T) {
	for _, x := range []struct {
		a        api.Clock
		replicas int
		want     bool
	}{
		{of(1, 0, 0), 1, true}, {of(1, 0, 2), 2, false}, {of(1, 0, 2), 3, true}, {of(), 9, false}, {of(-1), 3, false},
		{of(), 0, true}, {of(1), 0, false}, {of(-1), 0, false}, {of(), -1, false}, {of(), most, false}, {of(), least, false},
		{all(most), 8, true}, {all(most), 7, false}, {all(0), 8, true}, {all(-1), 8, false}, {all(least), 8, false}, {of(1), 9, false}, {of(1), -1, false},
	} {
		if got := clock.Valid(x.a, x.replicas); got != x.want {
			t.Errorf("Valid(%v, %d) is %v", x.a, x.replicas, got)
		}
	}
	for r := range api.MaxReplicas {
		for replicas := range api.MaxReplicas + 1 {
			wantBool(t, "Valid", clock.Valid(one(r, 1), replicas), r < replicas)
			wantBool(t, "Valid below 0", clock.Valid(one(r, -1), replicas), false)
		}
	}
}

// P3.5

func TestText(t *testing.T) {
	for _, x := range []struct {
		a        api.Clock
		replicas int
		want     string
	}{
		{of(3, 0, 12), 3, "3.0.12"}, {of(3, 0, 12), 0, ""}, {of(-4, 1), 2, "-4.1"}, {of(3, 0, 12), 1, "3"}, {of(3, 0, 12), 2, "3.0"},
		{of(3), -1, ""}, {of(3), least, ""}, {of(1), 8, "1.0.0.0.0.0.0.0"}, {of(1), 9, "1.0.0.0.0.0.0.0"}, {of(1), most, "1.0.0.0.0.0.0.0"},
		{of(1, 2, 3, 4, 5, 6, 7, 8), 8, "1.2.3.4.5.6.7.8"}, {of(1, 2, 3, 4, 5, 6, 7, 8), 7, "1.2.3.4.5.6.7"},
		{of(most, least), 2, "9223372036854775807.-9223372036854775808"}, {of(-1, -10, 100), 3, "-1.-10.100"},
	} {
		if got := clock.Text(x.a, x.replicas); got != x.want {
			t.Errorf("Text(%v, %d) is %q, not %q", x.a, x.replicas, got, x.want)
		}
	}
}

func wantParsed(t *testing.T, s string, want api.Clock, entries int) {
	t.Helper()
	got, n, err := clock.Parse(s)
	if got != want || n != entries || err != nil {
		t.Errorf("Parse(%q) is %v, %d, %v, not %v, %d", s, got, n, err, want, entries)
	}
}

func wantUnparsed(t testing.TB, s string, at int) {
	t.Helper()
	got, n, err := clock.Parse(s)
	if got != of() || n != 0 {
		t.Errorf("Parse(%q) is refused, but beside that %v, %d", s, got, n)
	}
	wantRefusal(t, err, "Parse", at, api.ErrForm)
}

func TestParse(t *testing.T) {
	wantParsed(t, "3.0.12", of(3, 0, 12), 3)
	wantParsed(t, "7", of(7), 1)
	wantParsed(t, "0", of(), 1)
	wantParsed(t, "0.0", of(), 2)
	wantParsed(t, "10.100", of(10, 100), 2)
	wantParsed(t, "1.2.3.4.5.6.7.8", of(1, 2, 3, 4, 5, 6, 7, 8), 8)
	wantParsed(t, "9223372036854775807", of(most), 1)
	wantParsed(t, "9223372036854775806", of(most-1), 1)
	wantParsed(t, "999999999999999999", of(999999999999999999), 1)
	wantParsed(t, strings.Repeat("9223372036854775807.", 7)+"9223372036854775807", all(most), 8)
}

func TestParseRefuses(t *testing.T) {
	for s, at := range map[string]int{
		"": 0, "1.": 2, "1.2.": 4, "01": 1, "00": 1, "0.00": 3, "0.01": 3, "1..2": 2, "1.x": 2, "1.2x": 3, "x": 0, ".": 0, ".1": 0, "1.-2": 2,
		"-1": 0, "+1": 0, "-": 0, " 1": 0, "1 ": 1, "1. 2": 2, "1,2": 1, "1/2": 1, "1:2": 1, "/": 0, ":": 0, "1\x00": 1, "\x00": 0, "\xff": 0, "1\xb2": 1, "٣": 0, "1_0": 1, "0x1": 1, "1e1": 1,
		"1.2.3.4.5.6.7.8.": 15, "1.2.3.4.5.6.7.8.9": 15, "1.2.3.4.5.6.7.8x": 15, "1.2.3.4.5.6.7.": 14, "10.2.3.4.5.6.7.8.9": 16, "0.0.0.0.0.0.0.00": 15,
		"9223372036854775808": 18, "9223372036854775809": 18, "9223372036854775810": 18, "9223372036854775900": 18, "9999999999999999999": 18, "9223372036854775806x": 19,
		"10000000000000000000": 19, "92233720368547758070": 19, "18446744073709551616": 19, "1.9223372036854775808": 20, "9223372036854775808.1": 18, "100000000000000000000000": 19,
	} {
		wantUnparsed(t, s, at)
	}
	wantUnparsed(t, strings.Repeat("0", 1<<20), 1)
	wantUnparsed(t, strings.Repeat("1", 1<<20), 19)
	wantUnparsed(t, strings.Repeat("1.", 1<<20), 15)
}

// The rows of 'Runs', as they stand there.

func TestRuns(t *testing.T) {
	got := []int{clock.Compare(of(1, 2), of(1, 2)), clock.Compare(of(1, 2), of(1, 3)), clock.Compare(of(1, 3), of(1, 2)), clock.Compare(of(1, 3), of(2, 2))}
	if want := []int{api.Same, api.Before, api.After, api.Apart}; !slices.Equal(got, want) {
		t.Errorf("Compare answers %v, not %v", got, want)
	}
	wantClock(t, "Merge", clock.Merge(of(1, 5), of(3, 2)), of(3, 5))
	wantClock(t, "Meet", clock.Meet(of(1, 5), of(3, 2)), of(1, 2))
	ticked, err := clock.Tick(of(0, 0), 1)
	if ticked != of(0, 1) || err != nil {
		t.Errorf("Tick is %v, %v", ticked, err)
	}
	_, err = clock.Tick(of(0, 0), 8)
	wantRefusal(t, err, "Tick", 8, api.ErrArg)
	_, err = clock.Tick(of(0, 0), -1)
	wantRefusal(t, err, "Tick", -1, api.ErrArg)
	wantBool(t, "Has 2", clock.Has(of(2, 0), 0, 2), true)
	wantBool(t, "Has 3", clock.Has(of(2, 0), 0, 3), false)
	wantBool(t, "Has 0", clock.Has(of(2, 0), 0, 0), false)
	wantBool(t, "Has of 8", clock.Has(of(2, 0), 8, 1), false)
	wantBool(t, "Ready", clock.Ready(of(1, 0), act(0, 2, of(1, 0))), true)
	wantBool(t, "Ready with 1 1", clock.Ready(of(1, 0), act(0, 2, of(1, 1))), false)
	wantBool(t, "Ready of act 3", clock.Ready(of(1, 0), act(0, 3, of(2, 0))), false)
	wantBool(t, "Ready with 1 3", clock.Ready(of(1, 4), act(0, 2, of(1, 3))), true)
	if clock.Lag(of(1, 0), of(3, 2)) != 4 || clock.Lag(of(5, 5), of(3, 2)) != 0 {
		t.Error("Lag is not 4, 0")
	}
	wantBool(t, "Valid 1", clock.Valid(of(1, 0, 0), 1), true)
	wantBool(t, "Valid 2", clock.Valid(of(1, 0, 2), 2), false)
	wantBool(t, "Valid 9", clock.Valid(of(1, 0, 2), 9), false)
	wantBool(t, "Valid below 0", clock.Valid(of(-1), 3), false)
	wantClock(t, "Most of none", clock.Most(nil), of())
	wantClock(t, "Least of none", clock.Least(nil), of())
	texts := []string{clock.Text(of(3, 0, 12), 3), clock.Text(of(3, 0, 12), 0), clock.Text(of(-4, 1), 2)}
	if want := []string{"3.0.12", "", "-4.1"}; !slices.Equal(texts, want) {
		t.Errorf("Text answers %q, not %q", texts, want)
	}
	wantParsed(t, "3.0.12", of(3, 0, 12), 3)
	wantParsed(t, "7", of(7), 1)
	wantUnparsed(t, "", 0)
	wantUnparsed(t, "1.", 2)
	wantUnparsed(t, "01", 1)
	wantUnparsed(t, "1..2", 2)
	wantUnparsed(t, "1.x", 2)
	wantUnparsed(t, "1.2.3.4.5.6.7.8.9", 15)
	wantParsed(t, "9223372036854775807", of(most), 1)
	wantUnparsed(t, "9223372036854775808", 18)
}

func TestExamples(t *testing.T) {
	for _, a := range []api.Clock{of(), of(1, 2), of(-3, 4), all(most), all(least)} {
		wantClock(t, "Merge with itself", clock.Merge(a, a), a)
	}
	have := of(6, 0, 3)
	for r := range api.MaxReplicas {
		for own := -1; own < 12; own++ {
			told := have
			told[r] = own
			wantBool(t, "Ready", clock.Ready(have, act(r, have[r]+1, told)), own == have[r])
		}
	}
	if clock.Lag(of(), all(1<<62)) != most {
		t.Error("the Lag of 0 against eight entries of 2^62 is not 2^63 - 1")
	}
}
