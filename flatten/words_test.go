package flatten_test

import (
	"math/rand"
	"slices"
	"testing"

	"barrow/api"
	"barrow/flatten"
)

// A plainDesk does what the chapter says, sentence by sentence.
type plainDesk struct {
	replicas, self int
	rounds         api.Rounds
}

func plainOpen(r api.Round) bool { return r.Number >= 1 && r.Decision == 0 }

func plainJoin(a, b api.Rounds) (both api.Rounds) {
	for c := range both {
		x, y := a[c], b[c]
		if x.Number > y.Number {
			both[c] = x
		}
		if y.Number > x.Number {
			both[c] = y
		}
		if x.Number != y.Number {
			continue
		}
		both[c].Number = x.Number
		for r := range api.MaxReplicas {
			both[c].Cut[r] = slices.Max([]int{x.Cut[r], y.Cut[r]})
			both[c].Votes[r] = slices.Max([]int{x.Votes[r], y.Votes[r]})
		}
		both[c].Decision = slices.Max([]int{x.Decision, y.Decision})
	}
	return both
}

func plainVote(cut, have api.Clock) int {
	alike := true
	for r := range cut {
		if have[r] > cut[r] {
			return api.No
		}
		alike = alike && have[r] == cut[r]
	}
	if alike {
		return api.Yes
	}
	return 0
}

func plainVerdict(r api.Round, replicas int) int {
	count := map[int]int{}
	for v := 0; v < replicas && v < api.MaxReplicas; v++ {
		count[r.Votes[v]]++
	}
	if count[api.No] > 0 {
		return api.Abort
	}
	if replicas >= 1 && count[api.Yes] == min(replicas, api.MaxReplicas) {
		return api.Commit
	}
	return 0
}

func plainStage(mine, theirs api.Round, number, replica int) int {
	if mine.Number > number || mine.Number == number && mine.Decision != 0 {
		return 0
	}
	if mine.Number < number {
		return 3
	}
	among := replica >= 0 && replica <= 7
	if theirs.Number == number && (!among || theirs.Votes[replica] == 0) {
		return 2
	}
	return 1
}

func (w *plainDesk) join(r api.Rounds) bool {
	before := w.rounds
	w.rounds = plainJoin(w.rounds, r)
	return w.rounds != before
}

func (w *plainDesk) propose(cut api.Clock) bool {
	own := &w.rounds[w.self]
	if plainOpen(*own) || own.Number >= last {
		return false
	}
	*own = api.Round{Number: own.Number + 1, Cut: cut}
	return true
}

func (w *plainDesk) settle(have api.Clock) bool {
	before := w.rounds
	for c := range w.replicas {
		r := &w.rounds[c]
		if plainOpen(*r) && r.Votes[w.self] == 0 {
			r.Votes[w.self] = plainVote(r.Cut, have)
		}
	}
	if own := &w.rounds[w.self]; plainOpen(*own) {
		own.Decision = plainVerdict(*own, w.replicas)
	}
	return w.rounds != before
}

func (w *plainDesk) told() (frozen, done bool, open []int) {
	for c, r := range w.rounds {
		if plainOpen(r) {
			open = append(open, c)
			frozen = frozen || r.Votes[w.self] == api.Yes
		}
		done = done || r.Decision == api.Commit
	}
	return frozen, done, open
}

// Dice are bytes that choose; behind the last one all are 0.
type dice struct{ raw []byte }

func (d *dice) roll(n int) int {
	if len(d.raw) == 0 || n <= 1 {
		return 0
	}
	b := int(d.raw[0])
	d.raw = d.raw[1:]
	return b % n
}

// odd is a number that is out of the way.
func (d *dice) odd() int {
	numbers := []int{-1, most, least, last, last - 1, 3, -2}
	return numbers[d.roll(len(numbers))]
}

// number is a small one, as a rule.
func (d *dice) number(n int) int {
	if d.roll(60) == 59 {
		return d.odd()
	}
	return d.roll(n)
}

// anyClock is one of few, so that some are alike.
func (d *dice) anyClock() (c api.Clock) {
	for r := range 2 {
		c[r] = d.number(3)
	}
	if d.roll(8) == 0 {
		c[d.roll(8)] = d.number(3)
	}
	return c
}

func (d *dice) anyRound() api.Round {
	r := api.Round{Number: d.number(4), Cut: d.anyClock()}
	for range d.roll(9) {
		r.Votes[d.roll(8)] = d.number(3)
	}
	if d.roll(3) == 0 {
		r.Decision = d.number(3)
	}
	return r
}

func (d *dice) anyRounds() (r api.Rounds) {
	for c := range r {
		if d.roll(3) > 0 {
			r[c] = d.anyRound()
		}
	}
	return r
}

// wantDeskWords does any steps with a Desk and by the words.
func wantDeskWords(t testing.TB, d *dice) {
	t.Helper()
	replicas := 1 + d.roll(8)
	self := d.roll(replicas)
	desk, w := newDesk(t, replicas, self), &plainDesk{replicas: replicas, self: self}
	for len(d.raw) > 0 && !t.Failed() {
		switch k := d.roll(32); {
		case k < 12:
			r := d.anyRounds()
			wantJoined(t, desk, r, w.join(r))
		case k < 24:
			have := d.anyClock()
			wantSettled(t, desk, have, w.settle(have))
		case k < 31:
			if cut := d.anyClock(); w.propose(cut) {
				wantProposed(t, desk, cut)
			} else {
				wantBusy(t, desk, self)
			}
		default:
			desk.Clear()
			w.rounds = api.Rounds{}
		}
		wantRounds(t, desk, w.rounds)
		frozen, done, open := w.told()
		wantTold(t, desk, frozen, done, open...)
	}
}

// wantRoundWords asks the functions of any rounds and clocks.
func wantRoundWords(t testing.TB, d *dice) {
	t.Helper()
	for len(d.raw) > 0 && !t.Failed() {
		a, b := d.anyRounds(), d.anyRounds()
		if got, want := flatten.Join(a, b), plainJoin(a, b); got != want {
			t.Errorf("Join of %v and %v is %v, not %v", a, b, got, want)
		}
		cut, have := d.anyClock(), d.anyClock()
		if got, want := flatten.Vote(cut, have), plainVote(cut, have); got != want {
			t.Errorf("Vote(%v, %v) is %d, not %d", cut, have, got, want)
		}
		r, n := d.anyRound(), d.roll(12)-1
		wantVerdict(t, r, n, plainVerdict(r, n))
		mine, theirs, number, replica := d.anyRound(), d.anyRound(), d.number(4), d.roll(12)-2
		if got, want := flatten.Stage(mine, theirs, number, replica), plainStage(mine, theirs, number, replica); got != want {
			t.Errorf("Stage(%v, %v, %d, %d) is %d, not %d", mine, theirs, number, replica, got, want)
		}
	}
}

func anyBytes(seed, count int) []byte {
	raw := make([]byte, count)
	rand.New(rand.NewSource(int64(seed))).Read(raw)
	return raw
}

// P12.2 and P12.4 to P12.6, whatever is said to a Desk.
func TestDeskWords(t *testing.T) {
	for seed := range 600 {
		wantDeskWords(t, &dice{anyBytes(seed, 200+8*seed)})
		if t.Failed() {
			t.Fatalf("the seed is %d", seed)
		}
	}
}

// P12.2, P12.3 and P12.7, whatever the rounds are.
func TestRoundWords(t *testing.T) {
	for seed := range 600 {
		wantRoundWords(t, &dice{anyBytes(seed, 2000)})
		if t.Failed() {
			t.Fatalf("the seed is %d", seed)
		}
	}
}

func FuzzDeskWords(f *testing.F) {
	f.Add([]byte{})
	f.Add([]byte("rounds: proposal, votes, decision"))
	f.Fuzz(func(t *testing.T, raw []byte) { wantDeskWords(t, &dice{raw}) })
}

func FuzzRoundWords(f *testing.F) {
	f.Add([]byte{})
	f.Add([]byte("rounds: proposal, votes, decision"))
	f.Fuzz(func(t *testing.T, raw []byte) { wantRoundWords(t, &dice{raw}) })
}
