package flatten_test

import (
	"testing"

	"barrow/api"
	"barrow/flatten"
)

// Each row of the chapter's table.
func TestRuns(t *testing.T) {
	zero := newDesk(t, 2, 0)
	wantProposed(t, zero, of(1, 1))
	wantSettled(t, zero, of(1, 1), true)
	wantRound(t, zero, 0, round(1, of(1, 1), api.Yes))

	wantBusy(t, zero, 0)
	wantTold(t, zero, true, false, 0)
	asked := zero.Rounds()

	one := newDesk(t, 2, 1)
	wantJoined(t, one, asked, true)
	wantSettled(t, one, of(1, 0), false)
	wantSettled(t, one, of(1, 1), true)
	wantTold(t, one, true, false, 0)

	wantJoined(t, zero, one.Rounds(), true)
	wantSettled(t, zero, of(1, 1), true)
	wantTold(t, zero, false, true)
	wantRound(t, zero, 0, with(round(1, of(1, 1), api.Yes, api.Yes), api.Commit))

	against := knowing(t, 2, 1, asked)
	wantSettled(t, against, of(1, 2), true)
	wantRound(t, against, 0, round(1, of(1, 1), api.Yes, api.No))
	wantTold(t, against, false, false, 0)

	zero = knowing(t, 2, 0, asked)
	wantJoined(t, zero, against.Rounds(), true)
	wantSettled(t, zero, of(1, 1), true)
	wantRound(t, zero, 0, with(round(1, of(1, 1), api.Yes, api.No), api.Abort))
	wantTold(t, zero, false, false)
	wantProposed(t, zero, of(1, 2))
	wantRound(t, zero, 0, round(2, of(1, 2)))

	wantTold(t, one, true, false, 0)
	wantJoined(t, one, zero.Rounds(), true)
	wantTold(t, one, false, false, 0)
	wantRound(t, one, 0, round(2, of(1, 2)))

	alone := newDesk(t, 1, 0)
	wantProposed(t, alone, of(4))
	wantSettled(t, alone, of(4), true)
	wantTold(t, alone, false, true)
}

func TestRunsOfVoteAndStage(t *testing.T) {
	for i, have := range []api.Clock{of(2, 1), of(2, 2), of(3, 0)} {
		if got, want := flatten.Vote(of(2, 2), have), []int{0, api.Yes, api.No}[i]; got != want {
			t.Errorf("Vote of %v is %d, not %d", have, got, want)
		}
	}
	open, voted := round(1, of()), round(1, of(), 0, api.Yes)
	for _, x := range []struct {
		mine, theirs api.Round
		want         int
	}{
		{api.Round{}, open, 3},
		{open, open, 2},
		{open, voted, 1},
		{with(voted, api.Commit), voted, 0},
	} {
		if got := flatten.Stage(x.mine, x.theirs, 1, 1); got != x.want {
			t.Errorf("Stage of %v and %v is %d, not %d", x.mine, x.theirs, got, x.want)
		}
	}
}

func TestExampleCoordinatorVotesBySettle(t *testing.T) {
	d := newDesk(t, 1, 0)
	wantProposed(t, d, of(1))
	wantRound(t, d, 0, round(1, of(1)))
	wantTold(t, d, false, false, 0)
	wantSettled(t, d, of(), false) // it waits, as any other one would
	wantSettled(t, d, of(1), true)
	wantRound(t, d, 0, with(round(1, of(1), api.Yes), api.Commit))

	d = newDesk(t, 1, 0)
	wantProposed(t, d, of(1))
	wantSettled(t, d, of(2), true)
	wantRound(t, d, 0, with(round(1, of(1), api.No), api.Abort))
}

func TestExampleClearThaws(t *testing.T) {
	d := knowing(t, 2, 1, api.Rounds{round(1, of())})
	wantSettled(t, d, of(), true)
	wantTold(t, d, true, false, 0)
	d.Clear()
	wantTold(t, d, false, false)
}

func TestExampleVerdictWaits(t *testing.T) {
	wantVerdict(t, round(1, of(), api.Yes, api.Yes, 0), 3, 0)
}

// R1: whatever the numbers are.
func TestNoNumberPanics(t *testing.T) {
	numbers := []int{least, least + 1, -1, 0, 1, 2, 3, 7, 8, 9, 256, last - 1, last, most - 1, most}
	odd := func(n, vote int) api.Round {
		return api.Round{Number: n, Cut: all(n), Votes: votes(all(vote)), Decision: vote}
	}
	for _, n := range numbers {
		for _, m := range numbers {
			flatten.New(n, m)
			flatten.Vote(all(n), all(m))
			flatten.Verdict(odd(n, m), m)
			flatten.Verdict(odd(m, n), m)
			flatten.Join(api.Rounds{odd(n, m)}, api.Rounds{odd(n, n)})
			for _, k := range numbers {
				flatten.Stage(odd(n, m), odd(m, n), k, n)
				flatten.Stage(odd(n, 0), odd(n, k), n, m)
				d := newDesk(t, 3, 2)
				d.Join(api.Rounds{0: odd(n, m), 2: odd(k, n), 7: odd(m, k)})
				d.Settle(all(k))
				d.Propose(all(n))
				d.Settle(all(m))
				d.Frozen()
				d.Done()
				d.Open()
			}
		}
	}
}
