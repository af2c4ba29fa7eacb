package flatten_test

import (
	"slices"
	"testing"

	"barrow/api"
)

// R2: what is answered is new memory, its spare room too.

func TestOpenIsTheCallersOwn(t *testing.T) {
	r := api.Rounds{1: round(1, of()), 3: round(1, of()), 4: round(1, of())}
	d := knowing(t, 8, 0, r)
	one, two := d.Open(), d.Open()
	spare := one[:cap(one)]
	for i := range spare {
		spare[i] = 66
	}
	if !slices.Equal(two, []int{1, 3, 4}) {
		t.Errorf("the other answer is %v", two)
	}
	wantTold(t, d, false, false, 1, 3, 4)
	wantRounds(t, d, r)
	d.Clear()
	if !slices.Equal(two, []int{1, 3, 4}) {
		t.Errorf("the answer has become %v", two)
	}
}

func TestRoundsAreTheCallersOwn(t *testing.T) {
	r := api.Rounds{round(1, of(1), 1), round(2, of(2))}
	want := r
	d := knowing(t, 2, 1, r)
	told := d.Rounds()
	r[0].Votes[1], r[1].Cut[0] = api.No, 99
	wantRounds(t, d, want)
	told[0].Votes[1], told[1].Decision = api.No, api.Commit
	wantRounds(t, d, want)
	told = d.Rounds()
	wantSettled(t, d, of(1), true)
	if told != want {
		t.Errorf("the answer has become %v", told)
	}
}

// R4: desks know nothing of each other.
func TestDesksAreApart(t *testing.T) {
	a, b := newDesk(t, 2, 0), newDesk(t, 2, 0)
	wantProposed(t, a, of(1))
	wantRounds(t, b, api.Rounds{})
	wantProposed(t, b, of(2))
	wantSettled(t, b, of(2), true)
	wantRound(t, a, 0, round(1, of(1)))
	a.Clear()
	wantRound(t, b, 0, round(1, of(2), api.Yes))
}
