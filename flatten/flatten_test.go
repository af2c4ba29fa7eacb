package flatten_test

import (
	"errors"
	"math"
	"slices"
	"testing"

	"barrow/api"
	"barrow/fault"
	"barrow/flatten"
)

const (
	most  = math.MaxInt
	least = math.MinInt
	last  = 1 << 62 // the Number behind which there is no next one
)

type votes = [api.MaxReplicas]int

// of is a clock by its first entries.
func of(entries ...int) (c api.Clock) {
	copy(c[:], entries)
	return c
}

// all is a clock of eight like entries.
func all(n int) (c api.Clock) {
	for r := range c {
		c[r] = n
	}
	return c
}

// entry is a clock, or votes, of which one entry is not 0.
func entry(r, n int) (c api.Clock) {
	c[r] = n
	return c
}

// round is one without a decision, by its number, its cut and its first votes.
func round(number int, cut api.Clock, first ...int) api.Round {
	r := api.Round{Number: number, Cut: cut}
	copy(r.Votes[:], first)
	return r
}

// only are rounds of which one coordinator has one.
func only(coordinator int, r api.Round) (known api.Rounds) {
	known[coordinator] = r
	return known
}

// with is the same round with a decision.
func with(r api.Round, decision int) api.Round {
	r.Decision = decision
	return r
}

func newDesk(t testing.TB, replicas, self int) *flatten.Desk {
	t.Helper()
	d, err := flatten.New(replicas, self)
	if err != nil || d == nil {
		t.Fatalf("New(%d, %d) is %v, %v", replicas, self, d, err)
	}
	return d
}

// knowing is a desk that was told these rounds.
func knowing(t testing.TB, replicas, self int, r api.Rounds) *flatten.Desk {
	t.Helper()
	d := newDesk(t, replicas, self)
	d.Join(r)
	wantRounds(t, d, r)
	return d
}

func wantRefusal(t testing.TB, err error, call string, at int, why error) {
	t.Helper()
	var f *fault.Fault
	if !errors.As(err, &f) {
		t.Fatalf("%s at %d is refused by %v, which is no Fault", call, at, err)
	}
	if f.Layer != "flatten" || f.Call != call || f.At != at || f.Why != why {
		t.Errorf("%s is refused by %v, not at %d for %q", call, err, at, why)
	}
}

func wantRounds(t testing.TB, d *flatten.Desk, want api.Rounds) {
	t.Helper()
	got := d.Rounds()
	for c := range want {
		if got[c] != want[c] {
			t.Errorf("the round of %d is %v, not %v", c, got[c], want[c])
		}
	}
}

// wantRound: nothing is known but the round of that coordinator.
func wantRound(t testing.TB, d *flatten.Desk, coordinator int, want api.Round) {
	t.Helper()
	wantRounds(t, d, only(coordinator, want))
}

func wantProposed(t testing.TB, d *flatten.Desk, cut api.Clock) {
	t.Helper()
	if err := d.Propose(cut); err != nil {
		t.Errorf("Propose(%v) is refused: %v", cut, err)
	}
}

// wantBusy: refused, and nothing is changed.
func wantBusy(t testing.TB, d *flatten.Desk, self int) {
	t.Helper()
	before := d.Rounds()
	wantRefusal(t, d.Propose(of(9, 9)), "Propose", self, api.ErrBusy)
	wantRounds(t, d, before)
}

func wantSettled(t testing.TB, d *flatten.Desk, have api.Clock, changed bool) {
	t.Helper()
	if got := d.Settle(have); got != changed {
		t.Errorf("Settle(%v) is %v, not %v", have, got, changed)
	}
}

func wantJoined(t testing.TB, d *flatten.Desk, r api.Rounds, changed bool) {
	t.Helper()
	if got := d.Join(r); got != changed {
		t.Errorf("Join(%v) is %v, not %v", r, got, changed)
	}
}

func wantTold(t testing.TB, d *flatten.Desk, frozen, done bool, open ...int) {
	t.Helper()
	if got := d.Frozen(); got != frozen {
		t.Errorf("Frozen is %v, not %v", got, frozen)
	}
	if got := d.Done(); got != done {
		t.Errorf("Done is %v, not %v", got, done)
	}
	if got := d.Open(); !slices.Equal(got, open) {
		t.Errorf("Open is %v, not %v", got, open)
	}
}

// P12.1

func TestNew(t *testing.T) {
	for replicas := 1; replicas <= api.MaxReplicas; replicas++ {
		for self := range replicas {
			d := newDesk(t, replicas, self)
			wantRounds(t, d, api.Rounds{})
			wantTold(t, d, false, false)
			wantSettled(t, d, all(most), false)
		}
	}
}

func TestNewRefuses(t *testing.T) {
	wrong := [][2]int{
		{0, 0}, {-1, 0}, {9, 0}, {9, 8}, {least, 0}, {most, 0}, {0, -1}, {-1, -1},
		{1, 1}, {2, 2}, {8, 8}, {8, 9}, {8, most}, {256, 255}, {1, 256}, {3, 1 << 32},
	}
	for _, w := range wrong {
		d, err := flatten.New(w[0], w[1])
		if d != nil {
			t.Errorf("New(%d, %d) is refused, and gives a desk", w[0], w[1])
		}
		wantRefusal(t, err, "New", max(w[1], -1), api.ErrArg)
	}
	for _, self := range []int{-1, -8, least} {
		d, err := flatten.New(8, self)
		if d != nil {
			t.Errorf("New(8, %d) is refused, and gives a desk", self)
		}
		wantRefusal(t, err, "New", -1, api.ErrArg)
	}
}

// P12.2

func TestJoinTakesTheGreaterNumberAsItIs(t *testing.T) {
	older := with(round(1, all(9), 2, 2, 2, 2, 2, 2, 2, 2), api.Abort)
	for _, newer := range []api.Round{round(2, of()), round(2, of(1), 1), with(round(7, of(0, 3), 0, 2), api.Commit), {Number: most}} {
		for c := range api.MaxReplicas {
			a, b := only(c, older), only(c, newer)
			if flatten.Join(a, b) != b || flatten.Join(b, a) != b {
				t.Errorf("of %v and %v Join is %v", older, newer, flatten.Join(a, b)[c])
			}
		}
	}
	low := api.Rounds{round(-1, all(3), 1), round(least, all(3), 1), with(round(-5, of()), 2)}
	if got := flatten.Join(low, api.Rounds{}); got != (api.Rounds{}) {
		t.Errorf("Numbers below 0 are kept: %v", got)
	}
	if got, want := flatten.Join(low, api.Rounds{round(-2, of())}), (api.Rounds{low[0]}); got != want {
		t.Errorf("of Numbers below 0 Join is %v, not %v", got, want)
	}
}

func TestJoinOfOneNumber(t *testing.T) {
	for _, number := range []int{-3, 0, 1, 2, last, most} {
		a := round(number, of(1, 5, 0, 7), 1, 0, 2, 1, 0, 0, 0, 2)
		b := round(number, of(3, 2, 0, 0, 0, 0, 0, 4), 0, 1, 1, 2, 0, 0, 2)
		want := round(number, of(3, 5, 0, 7, 0, 0, 0, 4), 1, 1, 2, 2, 0, 0, 2, 2)
		for _, decisions := range [][3]int{{0, 0, 0}, {0, 1, 1}, {0, 2, 2}, {1, 2, 2}, {1, 1, 1}, {2, 2, 2}} {
			x := api.Rounds{3: with(a, decisions[0]), 4: with(b, decisions[1])}
			y := api.Rounds{3: with(b, decisions[1]), 4: with(a, decisions[0])}
			both := with(want, decisions[2])
			if number < 0 { // those of nobody are zero, and win
				x, y = filled(x, number), filled(y, number)
			}
			got := flatten.Join(x, y)
			if got[3] != both || got[4] != both {
				t.Errorf("Join is %v and %v, not %v", got[3], got[4], both)
			}
		}
	}
}

// filled has a round of that number where there was none.
func filled(r api.Rounds, number int) api.Rounds {
	for c := range r {
		r[c].Number = number
	}
	return r
}

// Each coordinator's round is joined for itself.
func TestJoinCoordinatorByCoordinator(t *testing.T) {
	a := api.Rounds{round(2, of(1), 1), round(1, of(2), 0, 1), with(round(4, of()), 1), round(1, of(6, 1), 1)}
	b := api.Rounds{round(1, of(9), 2), round(3, of(1)), with(round(4, of(1)), 2), {}, 7: round(1, of(5))}
	want := api.Rounds{a[0], b[1], with(round(4, of(1)), 2), a[3], 7: b[7]}
	if got := flatten.Join(a, b); got != want {
		t.Errorf("Join is %v, not %v", got, want)
	}
}

func TestDeskJoins(t *testing.T) {
	d := newDesk(t, 3, 1)
	wantJoined(t, d, api.Rounds{}, false)
	first := api.Rounds{round(1, of(1, 1), 1), 5: round(2, of(4))}
	wantJoined(t, d, first, true)
	wantRounds(t, d, first)
	wantJoined(t, d, first, false)
	wantJoined(t, d, api.Rounds{round(1, of(0, 1))}, false)
	wantJoined(t, d, api.Rounds{round(0, of(7), 2)}, false)
	wantJoined(t, d, api.Rounds{5: with(round(1, of(9)), 2)}, false)
	wantRounds(t, d, first)
	wantJoined(t, d, api.Rounds{round(1, of(1, 1), 0, 0, 2)}, true)
	wantJoined(t, d, api.Rounds{round(1, of(1, 2))}, true)
	wantJoined(t, d, api.Rounds{with(round(1, of()), api.Abort)}, true)
	wantJoined(t, d, api.Rounds{5: round(3, of(1))}, true)
	wantRounds(t, d, api.Rounds{with(round(1, of(1, 2), 1, 0, 2), api.Abort), 5: round(3, of(1))})
	// What others say of the site's own round, and of its own vote, joins too.
	wantJoined(t, d, api.Rounds{1: round(6, of(2), 0, 1)}, true)
	wantTold(t, d, true, false, 1, 5)
	wantBusy(t, d, 1)
}

// P12.3

func TestVote(t *testing.T) {
	for _, x := range []struct {
		cut, have api.Clock
		want      int
	}{
		{of(), of(), api.Yes},
		{all(most), all(most), api.Yes},
		{all(least), all(least), api.Yes},
		{of(1, 2, 3), of(1, 2, 3), api.Yes},
		{of(1, 2, 3), of(1, 2, 2), 0},
		{of(1, 2, 3), of(), 0},
		{all(most), all(least), 0},
		{of(), of(-1), 0},
		{of(1, 2, 3), of(2, 2, 3), api.No},
		{of(1, 2, 3), of(0, 0, 4), api.No},
		{of(1, 2, 3), of(9, 9, 9), api.No},
		{all(least), all(most), api.No},
		{of(-1), of(), api.No},
	} {
		if got := flatten.Vote(x.cut, x.have); got != x.want {
			t.Errorf("Vote(%v, %v) is %d, not %d", x.cut, x.have, got, x.want)
		}
	}
	for r := range api.MaxReplicas { // each entry counts
		cut := all(5)
		less, more := cut, cut
		less[r], more[r] = 4, 6
		mixed := less
		mixed[(r+1)%api.MaxReplicas] = 6
		for have, want := range map[api.Clock]int{cut: api.Yes, less: 0, more: api.No, mixed: api.No} {
			if got := flatten.Vote(cut, have); got != want {
				t.Errorf("Vote(%v, %v) is %d, not %d", cut, have, got, want)
			}
		}
	}
}

func wantVerdict(t testing.TB, r api.Round, replicas, want int) {
	t.Helper()
	if got := flatten.Verdict(r, replicas); got != want {
		t.Errorf("Verdict(%v, %d) is %d, not %d", r, replicas, got, want)
	}
}

func TestVerdict(t *testing.T) {
	yes := api.Round{Votes: votes(all(api.Yes))}
	for n := 1; n <= api.MaxReplicas; n++ {
		wantVerdict(t, yes, n, api.Commit)
		wantVerdict(t, round(1, of()), n, 0)
		for v := range api.MaxReplicas { // the votes of just these count
			r := yes
			r.Votes[v] = 0
			want := api.Commit
			if v < n {
				want = 0
			}
			wantVerdict(t, r, n, want)
			r.Votes[v] = api.No
			if v < n {
				want = api.Abort
			}
			wantVerdict(t, r, n, want)
			r.Votes = votes(entry(v, api.No)) // though the others are not known
			if v >= n {
				want = 0
			}
			wantVerdict(t, r, n, want)
		}
	}
	// Number, Cut and a Decision that is there already say nothing.
	wantVerdict(t, with(round(5, all(9), 1, 1), api.Abort), 2, api.Commit)
	wantVerdict(t, with(round(0, of(), 2, 1), api.Commit), 2, api.Abort)
	wantVerdict(t, with(round(-1, of(), 0, 1), api.Commit), 2, 0)
}

func TestVerdictOfOddNumbers(t *testing.T) {
	yes, no := api.Round{Votes: votes(all(api.Yes))}, api.Round{Votes: votes(all(api.No))}
	for _, n := range []int{0, -1, -8, least} {
		wantVerdict(t, yes, n, 0)
		wantVerdict(t, no, n, 0)
		wantVerdict(t, api.Round{}, n, 0)
	}
	for _, n := range []int{9, 16, 256, 1 << 32, most} {
		wantVerdict(t, yes, n, api.Commit)
		wantVerdict(t, round(1, of(), 1, 1, 1, 1, 1, 1, 1, 0), n, 0)
		wantVerdict(t, round(1, of(), 0, 0, 0, 0, 0, 0, 0, 2), n, api.Abort)
	}
	wantVerdict(t, round(1, of(), 1, 3), 2, 0)
	wantVerdict(t, round(1, of(), 1, -1), 2, 0)
	wantVerdict(t, round(1, of(), 3, 2), 2, api.Abort)
}

// P12.4

func TestPropose(t *testing.T) {
	for self := range api.MaxReplicas {
		d := newDesk(t, api.MaxReplicas, self)
		wantProposed(t, d, of(4, 5))
		wantRound(t, d, self, round(1, of(4, 5)))
		wantTold(t, d, false, false, self)
		wantBusy(t, d, self)
	}
}

// Behind a decision, whichever it is, there is a next round; nothing of the old
// one is in it.
func TestProposeBehindADecision(t *testing.T) {
	for _, decision := range []int{api.Commit, api.Abort} {
		others := api.Rounds{0: round(3, of(7), 1, 1), 2: with(round(1, of(2)), api.Abort)}
		known := others
		known[1] = with(round(4, all(6), 1, 2, 1, 2, 1, 2, 1, 2), decision)
		d := knowing(t, 3, 1, known)
		wantProposed(t, d, of(1, 2))
		others[1] = round(5, of(1, 2))
		wantRounds(t, d, others)
		wantBusy(t, d, 1)
	}
}

// Rounds of others do not keep a site from proposing.
func TestProposeBesideOpenRounds(t *testing.T) {
	d := knowing(t, 3, 1, api.Rounds{0: round(1, of(), 1, 1, 1), 2: round(9, of(), 1, 1, 1), 7: round(1, of())})
	wantTold(t, d, true, false, 0, 2, 7)
	wantProposed(t, d, of(3))
	wantTold(t, d, true, false, 0, 1, 2, 7)
}

func TestProposeOfOddNumbers(t *testing.T) {
	for _, number := range []int{last, last + 1, most} {
		for _, decision := range []int{0, api.Commit, api.Abort} {
			wantBusy(t, knowing(t, 2, 1, api.Rounds{1: with(round(number, of(1)), decision)}), 1)
		}
	}
	d := knowing(t, 2, 1, api.Rounds{1: with(round(last-1, of(1)), api.Abort)})
	wantProposed(t, d, all(least))
	wantRound(t, d, 1, round(last, all(least)))
	wantBusy(t, d, 1)
	wantSettled(t, d, all(most), true)
	wantBusy(t, d, 1)
	// A great Number of another coordinator does not count.
	d = knowing(t, 2, 1, api.Rounds{0: with(round(most, of()), api.Abort)})
	wantProposed(t, d, of())
	// What has the Number 0 is none, and not open.
	d = knowing(t, 2, 1, api.Rounds{1: round(0, of(5), 2, 2)})
	wantProposed(t, d, of(1))
	wantRound(t, d, 1, round(1, of(1)))
}

// P12.5

// In each open round in which the site has no vote, it votes: by that round's
// cut.
func TestSettleVotesEverywhere(t *testing.T) {
	r := api.Rounds{
		round(1, of(2, 1), 1),
		round(2, of(2, 2), 0, 1),
		round(1, of(2, 0)),
		round(4, of(2, 1), 0, 0, 0, api.No),
		round(4, of(2, 1), 0, 0, 0, api.Yes),
		with(round(1, of(2, 1)), api.Abort),
		with(round(1, of(2, 1)), api.Commit),
		round(0, of(2, 1)),
	}
	d := knowing(t, 8, 3, r)
	wantSettled(t, d, of(2, 1), true)
	r[0].Votes[3] = api.Yes
	r[2].Votes[3] = api.No
	r[3].Decision = api.Abort // its own
	wantRounds(t, d, r)
	wantSettled(t, d, of(2, 1), false)
	wantSettled(t, d, of(2, 2), true) // the round of 1 need not wait any more
	r[1].Votes[3] = api.Yes
	wantRounds(t, d, r)
	wantSettled(t, d, all(9), false)
}

// A site does not change its vote.
func TestSettleKeepsVotes(t *testing.T) {
	for _, vote := range []int{api.Yes, api.No, 3, -1} {
		r := round(1, of(3), 0, vote)
		d := knowing(t, 3, 1, api.Rounds{2: r})
		for _, have := range []api.Clock{of(), of(3), of(4)} {
			wantSettled(t, d, have, false)
			wantRound(t, d, 2, r)
		}
	}
}

func TestSettleSeesOnlyCoordinatorsThatThereAre(t *testing.T) {
	for replicas := 1; replicas <= api.MaxReplicas; replicas++ {
		var r api.Rounds
		for c := range r {
			r[c] = round(1, of(1))
		}
		d := knowing(t, replicas, 0, r)
		wantSettled(t, d, of(1), true)
		for c := range replicas {
			r[c].Votes[0] = api.Yes
		}
		if replicas == 1 {
			r[0].Decision = api.Commit
		}
		wantRounds(t, d, r)
	}
}

// The site decides of its own round, and of no other one.
func TestSettleDecidesItsOwn(t *testing.T) {
	r := api.Rounds{round(1, of(1), 1, 1, 1), round(1, of(1), 1, 1, 1), round(1, of(1), 2, 1, 1)}
	for self := range 3 {
		d := knowing(t, 3, self, r)
		wantSettled(t, d, of(1), true)
		want := r
		want[self].Decision = []int{api.Commit, api.Commit, api.Abort}[self]
		wantRounds(t, d, want)
		wantSettled(t, d, of(2), false)
	}
}

// The vote of this very call counts for the decision.
func TestSettleDecidesByItsOwnVote(t *testing.T) {
	r := round(1, of(1), 0, 1)
	d := knowing(t, 2, 0, api.Rounds{r})
	wantSettled(t, d, of(), false) // it waits
	wantRound(t, d, 0, r)
	wantSettled(t, d, of(1), true)
	wantRound(t, d, 0, with(round(1, of(1), 1, 1), api.Commit))

	d = knowing(t, 2, 0, api.Rounds{r})
	wantSettled(t, d, of(2), true)
	wantRound(t, d, 0, with(round(1, of(1), 2, 1), api.Abort))

	// While it waits, another one's No decides.
	d = knowing(t, 2, 0, api.Rounds{round(1, of(1), 0, 2)})
	wantSettled(t, d, of(), true)
	wantRound(t, d, 0, with(round(1, of(1), 0, 2), api.Abort))
}

// A decision stays, whatever is learned of the votes behind it.
func TestSettleKeepsDecisions(t *testing.T) {
	for _, decision := range []int{api.Commit, api.Abort} {
		for _, first := range [][]int{{}, {1, 1}, {2, 2}, {0, 2}} {
			r := with(round(3, of(1), first...), decision)
			d := knowing(t, 2, 0, api.Rounds{r})
			for _, have := range []api.Clock{of(), of(1), of(2)} {
				wantSettled(t, d, have, false)
				wantRound(t, d, 0, r)
			}
		}
	}
}

// P12.6, W5

func TestFrozen(t *testing.T) {
	for c := range api.MaxReplicas {
		for self := range 3 {
			yes, no := api.Round{Number: 1}, api.Round{Number: 1}
			yes.Votes[self], no.Votes[self] = api.Yes, api.No
			wantTold(t, knowing(t, 3, self, only(c, yes)), true, false, c)
			wantTold(t, knowing(t, 3, self, only(c, no)), false, false, c)
			wantTold(t, knowing(t, 3, self, only(c, with(yes, api.Abort))), false, false)
			wantTold(t, knowing(t, 3, self, only(c, with(yes, api.Commit))), false, true)
			others := api.Round{Number: 1, Votes: votes(all(api.Yes))}
			others.Votes[self] = 0
			wantTold(t, knowing(t, 3, self, only(c, others)), false, false, c)
			others.Votes[self], others.Number = api.Yes, 0 // none
			wantTold(t, knowing(t, 3, self, only(c, others)), false, false)
		}
	}
	// In one of several rounds.
	d := knowing(t, 3, 0, api.Rounds{round(1, of(), 2), with(round(1, of(), 1), 2), round(1, of(), 1), round(1, of())})
	wantTold(t, d, true, false, 0, 2, 3)
	wantJoined(t, d, api.Rounds{2: with(round(1, of()), api.Commit)}, true)
	wantTold(t, d, false, true, 0, 3)
}

// W5: frozen from the vote Yes on, till the decision is taken in.
func TestFrozenFromVoteToDecision(t *testing.T) {
	for _, decision := range []int{api.Commit, api.Abort} {
		d := knowing(t, 3, 1, api.Rounds{round(1, of(2, 1), 1)})
		wantTold(t, d, false, false, 0)
		wantSettled(t, d, of(1, 1), false)
		wantTold(t, d, false, false, 0)
		wantSettled(t, d, of(2, 1), true)
		wantTold(t, d, true, false, 0)
		wantJoined(t, d, api.Rounds{round(1, of(2, 1), 1, 0, decision)}, true)
		wantSettled(t, d, of(2, 1), false)
		wantTold(t, d, true, false, 0)
		wantJoined(t, d, api.Rounds{with(round(1, of(2, 1)), decision)}, true)
		wantTold(t, d, false, decision == api.Commit)
	}
}

func TestDone(t *testing.T) {
	for c := range api.MaxReplicas {
		for decision, done := range []bool{false, true, false} {
			open := []int{c}
			if decision != 0 {
				open = nil
			}
			wantTold(t, knowing(t, 1, 0, only(c, with(round(2, of(1)), decision))), false, done, open...)
		}
	}
	// That all have voted Yes is no decision.
	wantTold(t, knowing(t, 2, 0, api.Rounds{1: round(1, of(), 1, 1)}), true, false, 1)
	// A newer round takes it away.
	d := knowing(t, 2, 0, api.Rounds{1: with(round(1, of(), 1, 1), api.Commit)})
	wantTold(t, d, false, true)
	wantJoined(t, d, api.Rounds{1: round(2, of())}, true)
	wantTold(t, d, false, false, 1)
}

func TestOpen(t *testing.T) {
	var r api.Rounds
	for c := range r {
		r[c] = round(1, of())
	}
	wantTold(t, knowing(t, 1, 0, r), false, false, 0, 1, 2, 3, 4, 5, 6, 7)
	r[0].Decision, r[3].Decision, r[6].Number = api.Abort, api.Commit, 0
	wantTold(t, knowing(t, 1, 0, r), false, true, 1, 2, 4, 5, 7)
	wantTold(t, knowing(t, 1, 0, api.Rounds{7: round(most, of())}), false, false, 7)
}

func TestClear(t *testing.T) {
	var r api.Rounds
	for c := range r {
		r[c] = with(round(c, all(c), 1, 1, 1, 1, 1, 1, 1, 1), c%3)
	}
	r[0] = api.Round{}
	d := knowing(t, 8, 3, r)
	wantTold(t, d, true, true, 3, 6)
	d.Clear()
	wantRounds(t, d, api.Rounds{})
	wantTold(t, d, false, false)
	wantSettled(t, d, of(), false)
	d.Clear()
	wantRounds(t, d, api.Rounds{})
	// It is still the same site, and counts from 1 on.
	wantProposed(t, d, of(1))
	wantRound(t, d, 3, round(1, of(1)))
	wantSettled(t, d, of(1), true)
	wantRound(t, d, 3, round(1, of(1), 0, 0, 0, 1))
	wantJoined(t, d, api.Rounds{3: round(1, of(1), 1, 1, 1, 0, 1, 1, 1)}, true)
	wantSettled(t, d, of(1), false) // the vote of 7 is lacking
	wantRound(t, d, 3, round(1, of(1), 1, 1, 1, 1, 1, 1, 1))
	wantJoined(t, d, api.Rounds{3: round(1, of(), 0, 0, 0, 0, 0, 0, 0, 1)}, true)
	wantSettled(t, d, of(1), true)
	wantTold(t, d, false, true)
}

// P12.7

func TestStage(t *testing.T) {
	voted, other := api.Round{Number: 4, Votes: votes{5: api.Yes}}, api.Round{Number: 4, Votes: votes{4: api.Yes}}
	for i, x := range []struct {
		mine, theirs api.Round
		want         int
	}{
		{round(5, of()), round(4, of()), 0},
		{round(most, of()), api.Round{}, 0},
		{with(round(4, of()), api.Commit), round(4, of()), 0},
		{with(round(4, of()), api.Abort), round(4, of()), 0},
		{round(3, of()), voted, 3},
		{with(round(3, of()), api.Abort), voted, 3},
		{api.Round{}, round(9, of()), 3},
		{round(least, of()), voted, 3},
		{round(4, of()), round(4, of()), 2},
		{voted, round(4, of()), 2}, // the coordinator's knowledge counts
		{voted, other, 2},
		{round(4, of()), with(round(4, of()), api.Abort), 2},
		{round(4, of()), voted, 1},
		{round(4, of()), with(voted, api.Commit), 1},
		{round(4, of()), round(5, of()), 1},
		{round(4, of()), round(3, of()), 1},
		{round(4, of()), api.Round{Number: 4, Votes: votes{5: api.No}}, 1},
	} {
		if got := flatten.Stage(x.mine, x.theirs, 4, 5); got != x.want {
			t.Errorf("Stage %d is %d, not %d", i, got, x.want)
		}
	}
}

func TestStageOfReplicas(t *testing.T) {
	for voter := range api.MaxReplicas {
		theirs := api.Round{Number: 1, Votes: votes(entry(voter, api.No))}
		for _, replica := range []int{least, -1, 0, 1, 2, 3, 4, 5, 6, 7, 8, 9, 256, 1 << 32, most} {
			want := 2
			if replica == voter {
				want = 1
			}
			if got := flatten.Stage(round(1, of()), theirs, 1, replica); got != want {
				t.Errorf("Stage of %d is %d, not %d", replica, got, want)
			}
			if got := flatten.Stage(round(1, of()), round(2, of()), 1, replica); got != 1 {
				t.Errorf("Stage of %d is %d, where the coordinator has gone on", replica, got)
			}
		}
	}
}
