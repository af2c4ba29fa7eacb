package audit_test

import (
	"math/rand"
	"slices"
	"testing"

	"barrow/api"
	"barrow/audit"
	"barrow/cluster"
	"barrow/model"
	"barrow/replica"
)

// P20.7

// wantListLaws: Ordered is what First says, if no ID stands twice; the texts
// of Runs are the view.
func wantListLaws(t testing.TB, a, b []api.Element) {
	t.Helper()
	_, _, turned := audit.First(a, b)
	if twice := !audit.Ordered(a) || !audit.Ordered(b); audit.Ordered(a, b) != (!turned && !twice) {
		t.Fatalf("Ordered of %v and %v is %v", a, b, !turned)
	}
	var view string
	for _, run := range audit.Runs(a) {
		view += run.Layer
	}
	if m, err := model.Of(a); err == nil && m.View() != view {
		t.Fatalf("Runs tell %q, the view is %q", view, m.View())
	}
}

// wantMirrored: Agree is the same both ways, Table its own mirror image.
func wantMirrored(t testing.TB, l []*replica.Replica) {
	t.Helper()
	table := audit.Table(l)
	for i, a := range l {
		for j, b := range l {
			same, comparable := audit.Agree(a, b)
			back, comparableBack := audit.Agree(b, a)
			if same != back || comparable != comparableBack || table[i][j] != same || table[j][i] != same || same && !comparable {
				t.Fatalf("%d and %d agree: %v, %v; the other way round %v, %v", i, j, same, comparable, back, comparableBack)
			}
		}
	}
}

// A watch plays honest sessions, and remembers all models that there were.
type watch struct {
	t      testing.TB
	c      *cluster.Cluster
	models [][]api.Element
}

func newWatch(t testing.TB, c api.Config) *watch {
	t.Helper()
	x, err := cluster.New(c)
	ok(t, err)
	return &watch{t: t, c: x}
}

func (x *watch) sites() (l []*replica.Replica) {
	for i := range x.c.Replicas() {
		l = append(l, x.c.Replica(i))
	}
	return l
}

// check is P20.8, and W2 and W3 as they are seen from outside.
func (x *watch) check() {
	x.t.Helper()
	l := x.sites()
	wantMirrored(x.t, l)
	lags := audit.Lags(l)
	for i, r := range l {
		if err := audit.Sound(r); err != nil {
			x.t.Fatalf("replica %d is not sound: %v", i, err)
		}
		wantCausal(x.t, true, r.Acts()...)
		var view string
		for _, run := range audit.Runs(r.Elements()) {
			view += run.Layer
		}
		if view != r.View() {
			x.t.Fatalf("Runs tell %q, the view is %q", view, r.View())
		}
		for j, other := range l {
			same, comparable := audit.Agree(r, other)
			if same != comparable || same && r.View() != other.View() {
				x.t.Fatalf("%d and %d have delivered the same acts, and have %q and %q", i, j, r.View(), other.View())
			}
			if isOne := lags[i][j] == 0 && lags[j][i] == 0; isOne != comparable {
				x.t.Fatalf("%d and %d lack %d and %d acts", i, j, lags[i][j], lags[j][i])
			}
		}
		x.remember(r.Elements())
	}
}

// remember keeps a model that there was not directly ahead.
func (x *watch) remember(l []api.Element) {
	isIt := func(m []api.Element) bool { return slices.Equal(m, l) }
	if !slices.ContainsFunc(x.models[max(0, len(x.models)-8):], isIt) {
		x.models = append(x.models, l)
	}
}

// end brings all to come, and holds all models against each other.
func (x *watch) end() {
	x.t.Helper()
	x.c.Settle(1000)
	x.check()
	for i, row := range audit.Table(x.sites()) {
		if slices.Contains(row, false) {
			x.t.Fatalf("replica %d does not agree with all: %v", i, row)
		}
	}
	if !audit.Ordered(x.models...) {
		x.t.Fatalf("two elements stand in two orders in %v", x.models)
	}
}

func (x *watch) play(below func(n int) int, steps int) {
	texts := []string{"a", "bc", "é世", "", "abc", "\n"}
	kinds := []int{0, 0, 0, 0, 1, 1, 2, 3, 4, 5, 6, 7, 8, 8, 8, 8, 8, 8, 9, 10, 11, 12, 13}
	for range steps {
		x.c.Step(api.Step{Kind: kinds[below(len(kinds))], A: below(8), B: below(16), C: below(8), Text: texts[below(len(texts))]})
		x.check()
	}
	x.end()
}

func drawConfig(below func(n int) int) api.Config {
	return config(1+below(4), below(60), 1+below(4), below(5))
}

func TestHonestSessions(t *testing.T) {
	for seed := range int64(150) {
		below := rand.New(rand.NewSource(seed)).Intn
		newWatch(t, drawConfig(below)).play(below, 80)
	}
}

func TestHonestSessionOfEight(t *testing.T) {
	below := rand.New(rand.NewSource(8)).Intn
	newWatch(t, config(8, 400, 4, 4)).play(below, 250)
}

func FuzzHonestSessions(f *testing.F) {
	f.Add([]byte{2, 20, 2, 3, 0, 0, 0, 0, 2, 8, 0, 0, 0, 0})
	f.Add([]byte("some steps of a session, as they come"))
	f.Fuzz(func(t *testing.T, raw []byte) {
		below := drawn(&raw)
		x := newWatch(t, drawConfig(below))
		x.play(below, len(raw)/5)
	})
}

// All orders in which the parcels of three sites can arrive.
func TestAllArrivals(t *testing.T) {
	var play func(arrived []int)
	play = func(arrived []int) {
		x := newWatch(t, config(3, 30, 4, 4))
		for _, s := range []api.Step{
			{Kind: api.StepInsert, A: 0, Text: "ab"},
			{Kind: api.StepInsert, A: 1, Text: "c"},
			{Kind: api.StepErase, A: 0, B: 0, C: 1},
		} {
			ok(t, x.c.Step(s))
		}
		for _, i := range arrived {
			ok(t, x.c.Step(api.Step{Kind: api.StepDeliver, A: i}))
			x.check()
		}
		if left := x.c.Bag().Len(); left > 0 {
			for i := range left {
				play(append(slices.Clone(arrived), i))
			}
			return
		}
		x.end()
	}
	play(nil)
}

// W3 across epochs: what is thrown away stood in one order with what stays and
// with what comes.
func TestOrderedAcrossEpochs(t *testing.T) {
	x := newWatch(t, config(2, 40, 4, 4))
	for epoch := range 4 {
		for _, s := range []api.Step{
			{Kind: api.StepInsert, A: 0, B: epoch, Text: "ab"},
			{Kind: api.StepInsert, A: 1, B: 0, Text: "xy"},
			{Kind: api.StepErase, A: 0, B: 1, C: 1},
			{Kind: api.StepFair},
			{Kind: api.StepPropose, A: epoch},
		} {
			ok(t, x.c.Step(s))
			x.check()
		}
		x.c.Settle(9)
		x.check()
		if got := x.c.Replica(0).Epoch(); got != epoch+1 {
			t.Fatalf("the epoch is %d", got)
		}
	}
	x.end()
}
