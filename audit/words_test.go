package audit_test

import (
	"math/rand"
	"slices"
	"testing"

	"barrow/api"
	"barrow/audit"
	"barrow/clock"
	"barrow/fault"
	"barrow/packet"
	"barrow/replica"
)

// A reading of the chapter's words, one by one.

// readPlace is where an ID stands first; -1, if it doesn't.
func readPlace(l []api.Element, id api.ID) int {
	return slices.IndexFunc(l, func(e api.Element) bool { return e.ID == id })
}

func readOrdered(l ...[]api.Element) bool {
	for i, a := range l {
		for p, e := range a {
			if readPlace(a, e.ID) != p {
				return false
			}
		}
		for _, b := range l[:i] {
			if _, _, turned := readFirst(a, b); turned {
				return false
			}
		}
	}
	return true
}

func readFirst(a, b []api.Element) (x, y api.ID, ok bool) {
	for i, e := range a {
		for j, f := range a {
			if readPlace(a, e.ID) != i || readPlace(a, f.ID) != j || j <= i {
				continue
			}
			p, q := readPlace(b, e.ID), readPlace(b, f.ID)
			if p >= 0 && q >= 0 && q < p {
				return e.ID, f.ID, true
			}
		}
	}
	return api.ID{}, api.ID{}, false
}

func readShared(a, b []api.Element) (n int) {
	for i, e := range a {
		if readPlace(a, e.ID) == i && readPlace(b, e.ID) >= 0 {
			n++
		}
	}
	return n
}

func readAuthors(l []api.Element) (counts [api.MaxReplicas]int) {
	for r := range counts {
		for _, e := range l {
			if e.Hides <= 0 && e.ID.Replica == r {
				counts[r]++
			}
		}
	}
	return counts
}

func readRuns(l []api.Element) (runs []api.Link) {
	before := -1 // where the live one ahead stands
	for i, e := range l {
		if e.Hides > 0 {
			continue
		}
		if before < 0 || l[before].ID.Replica != e.ID.Replica {
			runs = append(runs, api.Link{At: e.ID.Replica})
		}
		runs[len(runs)-1].Layer += string(e.Char)
		before = i
	}
	return runs
}

func readCausal(l []api.Act) bool {
	for i, act := range l {
		var have api.Clock
		for _, ahead := range l[:i] {
			have[ahead.Op.Replica]++
		}
		if !clock.Ready(have, act) {
			return false
		}
	}
	return true
}

func readAgree(a, b *replica.Replica) (same, comparable bool) {
	if a == nil || b == nil || a.Epoch() != b.Epoch() || a.Clock() != b.Clock() {
		return false, false
	}
	l, m := a.Elements(), b.Elements()
	if len(l) != len(m) {
		return false, true
	}
	for i := range l {
		if l[i].ID != m[i].ID || l[i].Char != m[i].Char || l[i].Hides != m[i].Hides {
			return false, true
		}
	}
	return true, true
}

func readLag(a, b *replica.Replica) int {
	if a == nil || b == nil || b.Epoch() > a.Epoch() {
		return -1
	}
	if a.Epoch() > b.Epoch() {
		return 0
	}
	return clock.Lag(a.Clock(), b.Clock())
}

func readSound(r *replica.Replica) error {
	var holds [9]bool
	var shown []rune
	holds[1], holds[3], holds[7] = true, true, true
	for i, e := range r.Elements() {
		if e.Hides < 0 {
			holds[1] = false
		}
		if e.Hides == 0 {
			shown = append(shown, e.Char)
		}
		holds[3] = holds[3] && readPlace(r.Elements(), e.ID) == i
	}
	holds[2] = r.Live() == len(shown) && r.View() == string(shown)
	holds[4] = r.Len() <= r.Config().Model
	holds[5] = r.Credit() >= 0 && r.Credit()+r.Len() <= r.Config().Model
	var own api.Clock
	for _, act := range r.Acts() {
		own[act.Op.Replica]++
	}
	holds[6] = readCausal(r.Acts()) && own == r.Clock()
	for _, act := range r.Held() {
		holds[7] = holds[7] && !clock.Has(r.Clock(), act.Op.Replica, act.Number)
	}
	holds[8] = r.Cursor() >= 0 && r.Cursor() <= r.Live()
	var refused []error
	for n := 1; n <= 8; n++ {
		if !holds[n] {
			refused = append(refused, fault.New("audit", "Sound", n, api.ErrForm))
		}
	}
	return fault.Join(refused...)
}

// wantListsByTheWords holds all answers of lists against the reading.
func wantListsByTheWords(t testing.TB, l ...[]api.Element) {
	t.Helper()
	if got, want := audit.Ordered(l...), readOrdered(l...); got != want {
		t.Fatalf("Ordered of %v is %v", l, got)
	}
	for _, a := range l {
		if got, want := audit.Authors(a), readAuthors(a); got != want {
			t.Fatalf("Authors of %v are %v, not %v", a, got, want)
		}
		if got, want := audit.Runs(a), readRuns(a); !slices.Equal(got, want) {
			t.Fatalf("Runs of %v are %v, not %v", a, got, want)
		}
		for _, b := range l {
			x, y, ok := audit.First(a, b)
			if wantX, wantY, want := readFirst(a, b); x != wantX || y != wantY || ok != want {
				t.Fatalf("First of %v and %v is %v, %v, %v, not %v, %v, %v", a, b, x, y, ok, wantX, wantY, want)
			}
			if got, want := audit.Shared(a, b), readShared(a, b); got != want {
				t.Fatalf("Shared of %v and %v is %d, not %d", a, b, got, want)
			}
			wantListLaws(t, a, b)
		}
	}
}

// short are all lists of at most so many elements of some IDs.
func short(ids []api.ID, most int) [][]api.Element {
	all := [][]api.Element{nil}
	for from := 0; most > 0; most-- {
		end := len(all)
		for _, l := range all[from:end] {
			for i, id := range ids {
				all = append(all, append(slices.Clone(l), api.Element{ID: id, Char: 'a' + rune(i), Hides: (len(l)+i)%3 - 1}))
			}
		}
		from = end
	}
	return all
}

func TestAllShortLists(t *testing.T) {
	all := short([]api.ID{id(0, 0, 1), id(0, 1, 1), id(1, 0, 1)}, 4)
	for _, a := range all {
		for _, b := range all {
			wantListsByTheWords(t, a, b)
		}
	}
}

// drawList is some of the elements that there are, mostly in their order, of
// which some stand twice now and then.
func drawList(below func(n int) int) (l []api.Element) {
	skip := 1 + below(3)
	for i := range 12 {
		if below(skip) > 0 {
			continue
		}
		l = append(l, api.Element{ID: id(below(20)/19, []int{0, 1, 7, 8, -1}[i%5], i), Char: []rune{'a', 'é', '世', '\n', 0x10FFFF}[below(5)], Hides: max(below(5)-2, -1)})
	}
	for range below(8) - 5 {
		if len(l) > 0 {
			i, j := below(len(l)), below(len(l))
			l[i], l[j] = l[j], l[i]
		}
	}
	if len(l) > 0 && below(12) == 0 {
		l = append(l, l[below(len(l))])
	}
	return l
}

func drawLists(below func(n int) int) (l [][]api.Element) {
	for range below(5) {
		l = append(l, drawList(below))
	}
	return l
}

func TestListsByTheWords(t *testing.T) {
	below := rand.New(rand.NewSource(20)).Intn
	ordered := 0
	for range 8000 {
		l := drawLists(below)
		wantListsByTheWords(t, l...)
		if len(l) > 1 && audit.Ordered(l...) {
			ordered++
		}
	}
	if ordered < 800 || ordered > 7200 {
		t.Errorf("%d were ordered", ordered)
	}
}

func drawActs(below func(n int) int) (l []api.Act) {
	var have api.Clock
	for range below(9) {
		r := below(3)
		a := api.Act{Op: api.Op{Kind: below(5), Replica: r}, Number: have[r] + 1, Clock: have}
		for i := range have {
			a.Clock[i] -= below(2)
		}
		a.Clock[r] = have[r]
		have[r]++
		switch below(20) {
		case 0:
			a.Clock[below(8)] += below(3) - 1
		case 1:
			a.Number += below(3) - 1
		case 2:
			a.Op.Replica = below(10) - 1
		}
		l = append(l, a)
	}
	return l
}

// causalByTheWords: the reading counts acts ahead alone of replicas that are.
func causalByTheWords(l []api.Act) bool {
	isNobody := func(a api.Act) bool { return a.Op.Replica < 0 || a.Op.Replica >= api.MaxReplicas }
	return !slices.ContainsFunc(l, isNobody) && readCausal(l)
}

func TestCausalByTheWords(t *testing.T) {
	below := rand.New(rand.NewSource(5)).Intn
	causal := 0
	for range 30000 {
		l := drawActs(below)
		want := causalByTheWords(l)
		wantCausal(t, want, l...)
		if want && len(l) > 2 {
			causal++
		}
	}
	if causal < 3000 || causal > 27000 {
		t.Errorf("%d were causal", causal)
	}
}

// A yard is some replicas, what goes out of them, and others who send what
// they like.
type yard struct {
	t     testing.TB
	below func(n int) int
	l     []*replica.Replica
	way   []api.Parcel
}

func newYard(t testing.TB, below func(n int) int) *yard {
	return &yard{t: t, below: below, l: sites(t, config(1+below(4), below(14), 1+below(3), below(4)))}
}

// forged is a message that no replica has sent, of acts that one may deliver,
// or hold.
func (y *yard) forged(r *replica.Replica) []byte {
	m := api.Message{Kind: api.Acts, From: y.below(4), Epoch: r.Epoch()}
	by := y.below(4)
	for i := range 1 + y.below(5) {
		a := act(1+y.below(3), y.below(3), by, r.Clock()[by]+1+i+y.below(5)/4)
		a.Clock[by] = a.Number - 1
		m.Acts = append(m.Acts, a)
	}
	raw, err := packet.Bytes(m)
	ok(y.t, err)
	return raw
}

// reload loads a replica by its Parts, of which an own act may be held.
func (y *yard) reload(i int) {
	p := y.l[i].Parts()
	if y.below(2) == 0 {
		n := y.l[i].Clock()[i] + 2
		a := act(api.Erase, 0, i, n)
		a.Clock[i] = n - 1
		p.Held = append(p.Held, a)
	}
	if r, err := replica.From(p); err == nil {
		y.l[i] = r
	}
}

func (y *yard) step() {
	i := y.below(len(y.l))
	r := y.l[i]
	switch y.below(14) {
	case 0, 1, 2:
		r.Insert(y.below(r.Live()+1), []string{"a", "bc", "é世"}[y.below(3)])
	case 3, 4:
		p := y.below(r.Live() + 1)
		r.Erase(p, y.below(r.Live()-p+1))
	case 5:
		r.Undo()
	case 6:
		r.Move(y.below(r.Live() + 1))
	case 7:
		r.Propose()
	case 8:
		y.reload(i)
	case 9, 10:
		r.Take(y.forged(r))
	default:
		y.arrive()
	}
	for _, r := range y.l {
		y.way = append(y.way, r.Out()...)
	}
}

func (y *yard) arrive() {
	if len(y.way) == 0 {
		return
	}
	i := y.below(len(y.way))
	p := y.way[i]
	if y.below(4) > 0 {
		y.way = slices.Delete(y.way, i, i+1)
	}
	y.l[p.To].Take(p.Bytes)
}

// check holds all answers of replicas against the reading.
func (y *yard) check() (flaws []int) {
	y.t.Helper()
	l := append(slices.Clone(y.l), nil, y.l[0])
	var table [][]bool
	var lags [][]int
	for _, a := range l {
		var row []bool
		var lag []int
		for _, b := range l {
			same, comparable := readAgree(a, b)
			if gotSame, gotComparable := audit.Agree(a, b); gotSame != same || gotComparable != comparable {
				y.t.Fatalf("Agree is %v, %v, not %v, %v", gotSame, gotComparable, same, comparable)
			}
			row, lag = append(row, same), append(lag, readLag(a, b))
		}
		table, lags = append(table, row), append(lags, lag)
	}
	wantRows(y.t, audit.Table(l), table)
	wantRows(y.t, audit.Lags(l), lags)
	for _, r := range y.l {
		got, want := audit.Sound(r), readSound(r)
		if (got == nil) != (want == nil) || got != nil && got.Error() != want.Error() {
			y.t.Fatalf("Sound is %v, not %v", got, want)
		}
		flaws = append(flaws, len(fault.Codes(got)))
		wantCausal(y.t, true, r.Acts()...)
		wantListsByTheWords(y.t, r.Elements(), y.l[0].Elements())
	}
	return flaws
}

func TestReplicasByTheWords(t *testing.T) {
	seen := map[int]int{}
	for seed := range int64(300) {
		y := newYard(t, rand.New(rand.NewSource(seed)).Intn)
		for range 40 {
			y.step()
			for _, n := range y.check() {
				seen[n]++
			}
		}
	}
	for n := range 3 {
		if seen[n] < 100 {
			t.Errorf("%d flaws were seen %d times", n, seen[n])
		}
	}
}

// drawn are numbers that come from bytes, as long as some are left.
func drawn(raw *[]byte) func(n int) int {
	return func(n int) int {
		if len(*raw) == 0 {
			return 0
		}
		k := int((*raw)[0])
		*raw = (*raw)[1:]
		return k % n
	}
}

func FuzzListsByTheWords(f *testing.F) {
	f.Add([]byte{2, 0, 1, 2, 3, 4, 5})
	f.Add([]byte("some lists, and some acts behind them"))
	f.Fuzz(func(t *testing.T, raw []byte) {
		below := drawn(&raw)
		for len(raw) > 0 {
			wantListsByTheWords(t, drawLists(below)...)
			acts := drawActs(below)
			wantCausal(t, causalByTheWords(acts), acts...)
		}
	})
}

func FuzzReplicasByTheWords(f *testing.F) {
	f.Add([]byte{1, 20, 2, 3, 0, 0, 0, 1, 2, 9, 0, 0, 1, 2, 3})
	f.Add([]byte("some steps of replicas, as they come, and what others send"))
	f.Fuzz(func(t *testing.T, raw []byte) {
		y := newYard(t, drawn(&raw))
		for len(raw) > 0 {
			y.step()
			y.check()
		}
	})
}
