package cluster_test

import (
	"bytes"
	"errors"
	"math"
	"slices"
	"strings"
	"testing"

	"barrow/api"
	"barrow/cluster"
	"barrow/fault"
	"barrow/image"
	"barrow/packet"
	"barrow/replica"
)

const (
	most  = math.MaxInt
	least = math.MinInt
)

func config(replicas, model, batch, buffer int) api.Config {
	return api.Config{Replicas: replicas, Model: model, Batch: batch, Buffer: buffer}
}

// two is the session of the chapter's runs.
func two() api.Config { return config(2, 8, 4, 4) }

// newCluster is a session on which some steps are done.
func newCluster(t testing.TB, c api.Config, steps ...api.Step) *cluster.Cluster {
	t.Helper()
	x, err := cluster.New(c)
	if err != nil {
		t.Fatalf("New(%v) is refused: %v", c, err)
	}
	wantDone(t, x, steps...)
	return x
}

func step(kind int, numbers ...int) api.Step {
	var all [3]int
	copy(all[:], numbers)
	return api.Step{Kind: kind, A: all[0], B: all[1], C: all[2]}
}

func insert(a, b int, text string) api.Step {
	return api.Step{Kind: api.StepInsert, A: a, B: b, Text: text}
}

func erase(a, b, c int) api.Step { return step(api.StepErase, a, b, c) }

func rewrite(a int, text string) api.Step {
	return api.Step{Kind: api.StepRewrite, A: a, Text: text}
}

func deliver(a int) api.Step { return step(api.StepDeliver, a) }

func propose(a int) api.Step { return step(api.StepPropose, a) }

// times is one step again and again.
func times(n int, s api.Step) []api.Step { return slices.Repeat([]api.Step{s}, n) }

func ok(t testing.TB, err error) {
	t.Helper()
	if err != nil {
		t.Fatal(err)
	}
}

func wantDone(t testing.TB, c *cluster.Cluster, steps ...api.Step) {
	t.Helper()
	for _, s := range steps {
		if err := c.Step(s); err != nil {
			t.Fatalf("%+v is refused: %v", s, err)
		}
	}
}

func link(layer, call string, at int) api.Link { return api.Link{Layer: layer, Call: call, At: at} }

// wantRefusal: a chain of Faults that ends in a reason.
func wantRefusal(t testing.TB, err error, why error, chain ...api.Link) {
	t.Helper()
	if err == nil || !errors.Is(err, why) || !slices.Equal(fault.Codes(err), []int{fault.Code(why)}) || !slices.Equal(fault.Chain(err), chain) {
		t.Errorf("refused is %v, want %v behind %v", err, why, chain)
	}
}

// wantRefused: a step is refused, and nothing has changed.
func wantRefused(t testing.TB, c *cluster.Cluster, s api.Step, why error, below ...api.Link) {
	t.Helper()
	before := tell(c)
	err := c.Step(s)
	wantRefusal(t, err, why, append([]api.Link{link("cluster", "Step", max(-1, s.Kind))}, below...)...)
	wantTold(t, c, before)
}

func wantLoad(t testing.TB, c *cluster.Cluster, acts, stages int) {
	t.Helper()
	if got := c.Load(); got != (api.Load{Acts: acts, Stages: stages}) {
		t.Errorf("Load is %v, not %d, %d", got, acts, stages)
	}
}

func wantViews(t testing.TB, c *cluster.Cluster, views ...string) {
	t.Helper()
	for i, want := range views {
		if got := c.Replica(i).View(); got != want {
			t.Errorf("replica %d shows %q, not %q", i, got, want)
		}
	}
}

// wantParcels: this is what is to be said of the parcels under way, in order.
func wantParcels[T comparable](t testing.TB, c *cluster.Cluster, say func(p api.Parcel) T, want []T) {
	t.Helper()
	var got []T
	for _, p := range c.Bag().All() {
		got = append(got, say(p))
	}
	if !slices.Equal(got, want) {
		t.Errorf("under way there are %v, not %v", got, want)
	}
}

// wantWay: they go from one to another each.
func wantWay(t testing.TB, c *cluster.Cluster, ends ...[2]int) {
	t.Helper()
	wantParcels(t, c, func(p api.Parcel) [2]int { return [2]int{p.From, p.To} }, ends)
}

func wantSerials(t testing.TB, c *cluster.Cluster, serials ...int) {
	t.Helper()
	wantParcels(t, c, func(p api.Parcel) int { return p.Serial }, serials)
}

// wantKinds: they are messages of these kinds.
func wantKinds(t testing.TB, c *cluster.Cluster, kinds ...int) {
	t.Helper()
	wantParcels(t, c, func(p api.Parcel) int { return packet.Kind(p.Bytes) }, kinds)
}

// told is all that a session tells.
type told struct {
	images  [][]byte
	parcels []api.Parcel
	counts  [4]int
	load    api.Load
	even    bool
	issued  [6][api.MaxReplicas]int
}

func tell(c *cluster.Cluster) (x told) {
	for i := range c.Replicas() {
		x.images = append(x.images, image.Save(c.Replica(i)))
		for epoch := range x.issued {
			x.issued[epoch][i] = c.Issued(epoch, i)
		}
	}
	x.parcels, x.load, x.even = c.Bag().All(), c.Load(), c.Even()
	x.counts[0], x.counts[1], x.counts[2], x.counts[3] = c.Bag().Counts()
	return x
}

func sameParcel(a, b api.Parcel) bool {
	return a.Serial == b.Serial && a.From == b.From && a.To == b.To && bytes.Equal(a.Bytes, b.Bytes)
}

func sameTold(a, b told) bool {
	return slices.EqualFunc(a.images, b.images, bytes.Equal) && slices.EqualFunc(a.parcels, b.parcels, sameParcel) &&
		a.counts == b.counts && a.load == b.load && a.even == b.even && a.issued == b.issued
}

func wantTold(t testing.TB, c *cluster.Cluster, want told) {
	t.Helper()
	if got := tell(c); !sameTold(got, want) {
		t.Errorf("told is\n%+v, want\n%+v", got, want)
	}
}

// message is a message's bytes.
func message(t testing.TB, m api.Message) []byte {
	t.Helper()
	raw, err := packet.Bytes(m)
	ok(t, err)
	return raw
}

// P19.1

func TestNew(t *testing.T) {
	for replicas := 1; replicas <= api.MaxReplicas; replicas++ {
		given := config(replicas, 90, 3, 2)
		c := newCluster(t, given)
		if c.Replicas() != replicas || c.Bag().Len() != 0 || !c.Even() {
			t.Fatalf("of %d replicas there are %d, %d parcels", replicas, c.Replicas(), c.Bag().Len())
		}
		wantLoad(t, c, 0, 0)
		for i := range replicas {
			r := c.Replica(i)
			if r.Self() != i || r.Config() != given || r.Len() != 0 || r.Epoch() != 0 || r.Credit() != 90/replicas {
				t.Errorf("replica %d is %+v", i, r.Parts())
			}
		}
		for _, i := range []int{-1, replicas, replicas + 1, 8, most, least} {
			if c.Replica(i) != nil {
				t.Errorf("there is a replica %d of %d", i, replicas)
			}
		}
	}
}

func TestNewRefuses(t *testing.T) {
	for _, given := range []api.Config{
		{},
		config(0, 8, 4, 4), config(-1, 8, 4, 4), config(9, 8, 4, 4), config(most, 8, 4, 4), config(least, 8, 4, 4),
		config(2, -1, 4, 4), config(2, api.MaxModel+1, 4, 4),
		config(2, 8, 0, 4), config(2, 8, api.MaxBatch+1, 4),
		config(2, 8, 4, -1), config(2, 8, 4, api.MaxBuffer+1),
	} {
		c, err := cluster.New(given)
		wantRefusal(t, err, api.ErrArg, link("cluster", "New", -1), link("replica", "New", 0))
		if c != nil {
			t.Errorf("New(%v) is a session", given)
		}
	}
	newCluster(t, config(1, 0, 1, 0))
	newCluster(t, config(8, api.MaxModel, api.MaxBatch, api.MaxBuffer))
}

func TestTheBagIsOfMaxBag(t *testing.T) {
	c := newCluster(t, two())
	for i := range api.MaxBag {
		if _, err := c.Bag().Send(0, 1, []byte{1}); err != nil {
			t.Fatalf("parcel %d is refused: %v", i, err)
		}
	}
	_, err := c.Bag().Send(0, 1, []byte{1})
	wantRefusal(t, err, api.ErrRoom, link("bag", "Send", 1))
	// what goes out then is lost, and that is no refusal
	wantDone(t, c, insert(0, 0, "ab"))
	if sent, _, dropped, _ := c.Bag().Counts(); c.Bag().Len() != api.MaxBag || sent != api.MaxBag+2 || dropped != 2 {
		t.Errorf("there are %d parcels, %d were sent, %d dropped", c.Bag().Len(), sent, dropped)
	}
	wantLoad(t, c, 2, 0)
	wantRefused(t, c, step(api.StepDouble, 7), api.ErrRoom, link("bag", "Double", 7))
	wantDone(t, c, step(api.StepDrop), step(api.StepDouble, 7))
	if c.Bag().Len() != api.MaxBag {
		t.Error("the parcel was not doubled")
	}
}

func TestTheObjectsThemselves(t *testing.T) {
	c := newCluster(t, two(), insert(0, 0, "ab"))
	if c.Bag() != c.Bag() || c.Replica(0) != c.Replica(0) {
		t.Error("there is another object each time")
	}
	parcels, r := c.Bag(), c.Replica(1)
	wantDone(t, c, deliver(0))
	if parcels.Len() != 0 || r.View() != "ab" {
		t.Error("the session goes on elsewhere")
	}
}

// Who plays beside the Cluster plays in the session; that is not remembered.
func TestPlayedBeside(t *testing.T) {
	c := newCluster(t, two())
	ok(t, c.Replica(0).Insert(0, "ab"))
	ok(t, c.Replica(1).Propose())
	wantViews(t, c, "ab", "")
	wantLoad(t, c, 0, 0)
	if c.Bag().Len() != 0 || c.Issued(0, 0) != 0 || c.Even() {
		t.Fatal("it is remembered, or sent already")
	}
	wantDone(t, c, step(api.StepCursor, 0, 1))
	wantWay(t, c, [2]int{0, 1}, [2]int{1, 0})
	wantKinds(t, c, api.Acts, api.State)
	wantLoad(t, c, 0, 0)

	// what is sent beside is delivered by steps, and the other way round
	ok(t, c.Bag().Swap(0, 1))
	wantDone(t, c, deliver(0))
	wantKinds(t, c, api.Acts, api.State) // 0 has voted No
	parcel, err := c.Bag().Deliver(0)
	ok(t, err)
	ok(t, c.Replica(parcel.To).Take(parcel.Bytes))
	wantViews(t, c, "ab", "ab")
	wantDone(t, c, deliver(0))
	if c.Replica(1).Frozen() {
		t.Error("the round was not decided")
	}

	// behind it only what steps do counts
	wantDone(t, c, insert(0, 0, "c"))
	if c.Issued(0, 0) != 1 {
		t.Errorf("%d acts are remembered", c.Issued(0, 0))
	}
}

func TestWhatIsTakenAwayIsNotSent(t *testing.T) {
	c := newCluster(t, two())
	ok(t, c.Replica(0).Insert(0, "ab"))
	if out := c.Replica(0).Out(); len(out) != 1 {
		t.Fatalf("there go out %v", out)
	}
	wantDone(t, c, step(api.StepCursor))
	wantWay(t, c)
}

// A refused step sends too what was to go out.
func TestRefusedStepsSend(t *testing.T) {
	for _, s := range []api.Step{step(99), step(-1), deliver(0), step(api.StepUndo, 1)} {
		c := newCluster(t, two())
		ok(t, c.Replica(0).Insert(0, "ab"))
		if err := c.Step(s); err == nil {
			t.Fatalf("%+v is not refused", s)
		}
		wantWay(t, c, [2]int{0, 1})
	}
}

func TestSentReplicaByReplica(t *testing.T) {
	c := newCluster(t, config(3, 90, 4, 4))
	ok(t, c.Replica(2).Insert(0, "a"))
	ok(t, c.Replica(0).Insert(0, "b"))
	ok(t, c.Replica(2).Sync(0))
	wantDone(t, c, insert(1, 0, "c"))
	wantWay(t, c, [2]int{0, 1}, [2]int{0, 2}, [2]int{1, 0}, [2]int{1, 2}, [2]int{2, 0}, [2]int{2, 1}, [2]int{2, 0})
	wantKinds(t, c, api.Acts, api.Acts, api.Acts, api.Acts, api.Acts, api.Acts, api.Digest)
	wantSerials(t, c, 1, 2, 3, 4, 5, 6, 7)
}

// P19.2: the table of steps

func TestStepsOfNoKind(t *testing.T) {
	c := newCluster(t, two(), insert(0, 0, "ab"))
	for _, kind := range []int{api.Steps, 99, most, -1, -5, least} {
		wantRefused(t, c, step(kind), api.ErrArg)
	}
}

// folded are numbers that mean 0, 1 and 2 among three.
func folded() [3][]int {
	return [3][]int{{0, 3, -3, 255, 1 << 40 * 3}, {1, 4, -2, most, 256}, {2, 5, -1, 257, -1 - 3<<40}}
}

func TestWhoseStepItIs(t *testing.T) {
	for want, numbers := range folded() {
		for _, a := range numbers {
			c := newCluster(t, config(3, 90, 4, 4), insert(a, 0, "abc"))
			if c.Issued(0, want) != 3 || c.Replica(want).View() != "abc" {
				t.Errorf("insert %d is not replica %d's", a, want)
			}
			wantDone(t, c, step(api.StepCursor, a, 2), erase(a, 0, 1), step(api.StepUndo, a), step(api.StepRedo, a))
			if r := c.Replica(want); r.View() != "bc" || c.Issued(0, want) != 6 || r.Cursor() != 0 {
				t.Errorf("the steps of %d make %q, %d acts, cursor %d", a, r.View(), c.Issued(0, want), r.Cursor())
			}
			wantDone(t, c, rewrite(a, "xbz"), step(api.StepReload, a), step(api.StepSync, a), propose(a))
			if r := c.Replica(want); r.View() != "xbz" || !r.Frozen() || c.Bag().Len() != 2*6+1 {
				t.Errorf("the steps of %d make %q, %d parcels", a, r.View(), c.Bag().Len())
			}
		}
	}
}

func TestStepInsert(t *testing.T) {
	for at, numbers := range folded() {
		for _, b := range numbers {
			c := newCluster(t, config(1, 90, 4, 4), insert(0, 0, "ab"), insert(0, b, "é世"))
			want := []rune("ab")
			want = slices.Insert(want, at, 'é', '世')
			wantViews(t, c, string(want))
			if c.Replica(0).Cursor() != at+2 || c.Issued(0, 0) != 4 {
				t.Errorf("the cursor is at %d, %d acts", c.Replica(0).Cursor(), c.Issued(0, 0))
			}
		}
	}
	c := newCluster(t, two(), insert(0, 0, "abcd"))
	wantRefused(t, c, insert(0, 2, "e"), api.ErrFull, link("replica", "Insert", 2))
	wantRefused(t, c, insert(0, -1, "\xff"), api.ErrText, link("replica", "Insert", 4))
	wantDone(t, c, insert(0, 9, ""))
	wantWay(t, c, [2]int{0, 1})
	wantDone(t, c, propose(1))
	wantRefused(t, c, insert(1, 0, "x"), api.ErrFrozen, link("replica", "Insert", 0))
}

func TestStepErase(t *testing.T) {
	for _, row := range []struct {
		b, c int
		want string
	}{
		{0, 0, "abc"}, {0, 1, "bc"}, {0, 3, ""}, {0, 4, "abc"}, {0, -1, ""}, {1, 1, "ac"}, {1, 2, "a"},
		{1, 3, "abc"}, {3, 0, "abc"}, {3, 1, "abc"}, {3, 77, "abc"}, {4, 2, "c"}, {-1, 5, "abc"}, {-2, 1, "ab"},
	} {
		c := newCluster(t, two(), insert(0, 0, "abc"), erase(0, row.b, row.c))
		wantViews(t, c, row.want)
		if c.Issued(0, 0) != 3+3-len(row.want) {
			t.Errorf("%d acts were issued", c.Issued(0, 0))
		}
	}
	c := newCluster(t, two(), insert(0, 0, "abc"), propose(0))
	wantRefused(t, c, erase(0, 1, 1), api.ErrFrozen, link("replica", "Erase", 1))
	wantRefused(t, c, erase(0, 5, 0), api.ErrFrozen, link("replica", "Erase", 1))
}

func TestStepUndoAndRedo(t *testing.T) {
	c := newCluster(t, two(), insert(0, 0, "abc"), erase(0, 1, 1))
	undo, redo := step(api.StepUndo, 0, 7, 7), step(api.StepRedo, 0, 7, 7)
	wantRefused(t, c, redo, api.ErrNone, link("replica", "Redo", -1), link("undo", "Redo", -1))
	wantRefused(t, c, step(api.StepUndo, 1), api.ErrNone, link("replica", "Undo", -1), link("undo", "Undo", -1))
	for i, want := range []string{"abc", ""} {
		wantDone(t, c, undo)
		wantViews(t, c, want)
		if got := c.Issued(0, 0); got != []int{5, 8}[i] {
			t.Errorf("%d acts were issued", got)
		}
	}
	wantRefused(t, c, undo, api.ErrNone, link("replica", "Undo", -1), link("undo", "Undo", -1))
	wantDone(t, c, redo)
	wantViews(t, c, "abc")
	wantDone(t, c, redo)
	wantViews(t, c, "ac", "")
	if c.Issued(0, 0) != 12 || c.Issued(0, 1) != 0 {
		t.Errorf("%d acts were issued", c.Issued(0, 0))
	}
	wantLoad(t, c, 12, 0)
	wantDone(t, c, propose(0))
	wantRefused(t, c, undo, api.ErrFrozen, link("replica", "Undo", -1))
}

func TestStepRewrite(t *testing.T) {
	c := newCluster(t, two(), insert(0, 0, "abc"), step(api.StepCursor, 0, 1), api.Step{Kind: api.StepRewrite, B: 5, C: 5, Text: "axc"})
	wantViews(t, c, "axc")
	if c.Issued(0, 0) != 5 || c.Replica(0).Cursor() != 1 || c.Bag().Len() != 2 {
		t.Errorf("%d acts, cursor %d", c.Issued(0, 0), c.Replica(0).Cursor())
	}
	wantDone(t, c, rewrite(0, "axc"))
	wantWay(t, c, [2]int{0, 1}, [2]int{0, 1})
	wantRefused(t, c, rewrite(0, "xyz"), api.ErrFull, link("replica", "Rewrite", -1))
	wantRefused(t, c, rewrite(0, "\xff"), api.ErrText, link("replica", "Rewrite", -1))
	wantRefused(t, c, rewrite(0, strings.Repeat("x", 1<<21)), api.ErrRoom, link("replica", "Rewrite", -1), link("diff", "Edits", -1))
	wantDone(t, c, rewrite(0, ""))
	wantViews(t, c, "")
}

func TestStepCursor(t *testing.T) {
	for want, numbers := range folded() {
		for _, b := range numbers {
			c := newCluster(t, two(), insert(0, 0, "ab"), step(api.StepCursor, 0, b, 9))
			if got := c.Replica(0).Cursor(); got != want {
				t.Errorf("cursor %d is at %d, not %d", b, got, want)
			}
			wantWay(t, c, [2]int{0, 1})
		}
	}
}

func TestStepPropose(t *testing.T) {
	c := newCluster(t, config(3, 9, 4, 4), step(api.StepPropose, 1, 7, 7))
	wantWay(t, c, [2]int{1, 0}, [2]int{1, 2})
	wantKinds(t, c, api.State, api.State)
	if !c.Replica(1).Frozen() || c.Replica(0).Frozen() {
		t.Error("not replica 1 has proposed")
	}
	wantLoad(t, c, 0, 1+3+3)
	wantRefused(t, c, propose(1), api.ErrBusy, link("replica", "Propose", -1), link("flatten", "Propose", 1))
	wantDone(t, c, propose(0))
	wantLoad(t, c, 0, 7+7)
}

func TestStepSync(t *testing.T) {
	for a, others := range [][]int{{1, 2, 3}, {0, 2, 3}, {0, 1, 3}, {0, 1, 2}} {
		for k, to := range others {
			for _, b := range []int{k, k + 3, k - 3, k + 300, k - 3<<40} {
				c := newCluster(t, config(4, 90, 4, 4), step(api.StepSync, a, b, 9))
				wantWay(t, c, [2]int{a, to})
				wantKinds(t, c, api.Digest)
			}
		}
	}
	c := newCluster(t, config(1, 8, 4, 4))
	wantRefused(t, c, step(api.StepSync), api.ErrNone)
	wantRefused(t, c, step(api.StepSync, 3, 3, 3), api.ErrNone)
	c = newCluster(t, two(), propose(1), step(api.StepSync, 1))
	wantKinds(t, c, api.State, api.Digest) // one that is frozen asks, too
}

// places are pairs of A and B that mean 0, 1 and 2 among three.
func places() [3][][2]int {
	return [3][][2]int{
		{{0, 0}, {3, 0}, {-3, 9}, {2, 1}, {2, -2}, {1, -1}},
		{{1, 0}, {-2, 0}, {0, 1}, {2, -1}, {1, 1 << 56}, {256, 255}},
		{{2, 0}, {-1, 0}, {1, 1}, {0, 2}, {255, 254}, {least + 1, most}},
	}
}

// three is a session with three parcels from 0 to 1.
func three(t testing.TB) *cluster.Cluster {
	t.Helper()
	return newCluster(t, two(), insert(0, 0, "a"), insert(0, 1, "b"), insert(0, 2, "c"))
}

func TestStepDeliver(t *testing.T) {
	for place, pairs := range places() {
		for _, n := range pairs {
			c := three(t)
			wantDone(t, c, step(api.StepDeliver, n[0], n[1], 9))
			wantSerials(t, c, slices.Delete([]int{1, 2, 3}, place, place+1)...)
			r := c.Replica(1)
			if held := r.Held(); place > 0 && (len(held) != 1 || held[0].Number != place+1) || place == 0 && r.View() != "a" {
				t.Errorf("of %v there are held %v", n, held)
			}
			if _, arrived, _, _ := c.Bag().Counts(); arrived != 1 {
				t.Errorf("%d have arrived", arrived)
			}
		}
	}
	c := newCluster(t, two())
	wantRefused(t, c, deliver(0), api.ErrNone)
	wantRefused(t, c, step(api.StepDeliver, -4, 5, 6), api.ErrNone)
}

func TestStepDeliverToNobody(t *testing.T) {
	for _, to := range []int{2, 7} {
		c := newCluster(t, two())
		_, err := c.Bag().Send(0, to, []byte("to nobody"))
		ok(t, err)
		ok(t, c.Replica(0).Insert(0, "ab"))
		wantRefusal(t, c.Step(deliver(0)), api.ErrNone, link("cluster", "Step", 8))
		wantWay(t, c, [2]int{0, 1}) // what was to go out is sent nevertheless
		if sent, arrived, _, _ := c.Bag().Counts(); sent != 2 || arrived != 1 {
			t.Errorf("%d were sent, %d have arrived", sent, arrived)
		}
	}
}

func TestStepDeliverRefused(t *testing.T) {
	c := newCluster(t, two())
	for _, raw := range [][]byte{nil, {9}, message(t, api.Message{Kind: api.Digest, From: 1}), message(t, api.Message{Kind: api.State, Epoch: 1})} {
		_, err := c.Bag().Send(0, 1, raw)
		ok(t, err)
	}
	for _, want := range []struct {
		why   error
		below []api.Link
	}{
		{api.ErrShort, []api.Link{link("packet", "Read", 0), link("wire", "Byte", 0)}},
		{api.ErrForm, []api.Link{link("packet", "Read", 0)}},
		{api.ErrArg, nil},
		{api.ErrOrder, nil},
	} {
		chain := append([]api.Link{link("cluster", "Step", 8), link("replica", "Take", -1)}, want.below...)
		wantRefusal(t, c.Step(deliver(0)), want.why, chain...)
	}
	wantWay(t, c)
}

// Where a message is refused in part, what comes of the rest goes out.
func TestStepDeliverRefusedInPart(t *testing.T) {
	c := newCluster(t, config(2, 20, 4, 0), insert(0, 0, "a"), propose(0))
	far := api.Act{Op: api.Op{Kind: api.Insert, Char: 'x'}, Number: 9, Clock: api.Clock{8}}
	reply := api.Message{Kind: api.Reply, Acts: append(c.Replica(0).Acts(), far), Rounds: c.Replica(0).Rounds()}
	c.Bag().Clear()
	_, err := c.Bag().Send(0, 1, message(t, reply))
	ok(t, err)
	wantRefusal(t, c.Step(deliver(0)), api.ErrRoom, link("cluster", "Step", 8), link("replica", "Take", -1))
	wantViews(t, c, "a", "a")
	wantWay(t, c, [2]int{1, 0})
	wantKinds(t, c, api.State)
}

func TestStepDropAndDouble(t *testing.T) {
	for place, pairs := range places() {
		for _, n := range pairs {
			c := three(t)
			wantDone(t, c, step(api.StepDouble, n[0], n[1], 9))
			wantSerials(t, c, 1, 2, 3, place+1)
			wantDone(t, c, step(api.StepDrop, 3))
			wantDone(t, c, step(api.StepDrop, n[0], n[1], 9))
			wantSerials(t, c, slices.Delete([]int{1, 2, 3}, place, place+1)...)
			if _, arrived, dropped, doubled := c.Bag().Counts(); arrived != 0 || dropped != 2 || doubled != 1 {
				t.Errorf("%d arrived, %d dropped, %d doubled", arrived, dropped, doubled)
			}
			wantViews(t, c, "abc", "")
		}
	}
	c := newCluster(t, two())
	wantRefused(t, c, step(api.StepDrop, 3, 4), api.ErrNone)
	wantRefused(t, c, step(api.StepDouble, 3, 4), api.ErrNone)
}

func TestStepSwap(t *testing.T) {
	for i, as := range folded() {
		for j, bs := range folded() {
			for k := range as {
				c := three(t)
				wantDone(t, c, step(api.StepSwap, as[k], bs[k], 9))
				want := []int{1, 2, 3}
				want[i], want[j] = want[j], want[i]
				wantSerials(t, c, want...)
			}
		}
	}
	c := newCluster(t, two())
	wantRefused(t, c, step(api.StepSwap, 3, 4), api.ErrNone)
}

func TestStepFair(t *testing.T) {
	c := newCluster(t, two(), insert(0, 0, "ab"), insert(1, 0, "c"))
	before := c.Bag().All()
	wantDone(t, c, step(api.StepFair, 3, 4, 5))
	wantViews(t, c, "abc", "abc")
	if !slices.EqualFunc(c.Bag().All(), before, sameParcel) || !c.Even() {
		t.Error("the Bag was touched")
	}
}

func TestStepReload(t *testing.T) {
	c := newCluster(t, two(), insert(0, 0, "abc"), erase(0, 1, 1), step(api.StepCursor, 0, 1), insert(1, 0, "z"), propose(1), deliver(2), deliver(2))
	before := tell(c)
	wantDone(t, c, step(api.StepReload, 0, 9, 9), step(api.StepReload, 1))
	wantTold(t, c, before)
	wantDone(t, c, step(api.StepUndo, 0))
	wantViews(t, c, "abcz", "z")

	// what is to go out of it by a play beside goes out of the new one
	ok(t, c.Replica(0).Insert(0, "q"))
	parcels := c.Bag().Len()
	wantDone(t, c, step(api.StepReload))
	if c.Bag().Len() != parcels+1 {
		t.Error("the parcel is lost")
	}
}

// Behind a message that was not honest there may be an act that waits no more
// and is held nevertheless: of such Parts there is no replica, so this one stays.
func TestStepReloadRefused(t *testing.T) {
	c := newCluster(t, two())
	early := api.Act{Op: api.Op{Kind: api.Insert, Char: 'x', Replica: 1}, Number: 1, Clock: api.Clock{1}}
	_, err := c.Bag().Send(1, 0, message(t, api.Message{Kind: api.Acts, From: 1, Acts: []api.Act{early}}))
	ok(t, err)
	wantDone(t, c, deliver(0), step(api.StepReload), insert(0, 0, "a"))
	r := c.Replica(0)
	wantRefused(t, c, step(api.StepReload), api.ErrForm, link("image", "Load", -1), link("replica", "From", 0))
	wantDone(t, c, insert(0, 1, "b"))
	if c.Replica(0) != r || r.View() != "ab" {
		t.Error("it goes on elsewhere")
	}
}

// What an image does not tell is gone: that an element of the base was restored
// more often than erased, as it may be behind a message that was not honest.
func TestStepReloadReplaces(t *testing.T) {
	c := newCluster(t, two(), insert(0, 0, "a"), step(api.StepDrop))
	r := c.Replica(0)
	restore := api.Act{Op: api.Op{Kind: api.Restore, Replica: 1}, Number: 1, Clock: api.Clock{1}}
	ok(t, r.Take(message(t, api.Message{Kind: api.Acts, From: 1, Acts: []api.Act{restore}})))
	wantDone(t, c, propose(0))
	state := api.Message{Kind: api.State, From: 1, Rounds: r.Rounds()}
	state.Rounds[0].Votes[1] = api.Yes
	ok(t, r.Take(message(t, state)))
	for _, hides := range []int{-1, 0} {
		if l := c.Replica(0).Elements(); len(l) != 1 || l[0].Hides != hides || c.Replica(0).Epoch() != 1 {
			t.Fatalf("the elements are %v in epoch %d", l, c.Replica(0).Epoch())
		}
		wantDone(t, c, step(api.StepReload))
	}
}

// P19.3

func TestRun(t *testing.T) {
	c, same := newCluster(t, two()), newCluster(t, two())
	raw := []byte{0, 0, 0, 0, 2, 0, 1, 8, 0, 0, 0, 0, 1, 0, 0, 1, 25, 12, 0, 0, 0}
	n, err := c.Run(raw)
	if n != 4 || err != nil {
		t.Errorf("%d steps, refused is %v", n, err)
	}
	wantDone(t, same, insert(0, 0, "ab"), deliver(0), insert(1, 0, "z"), step(api.StepFair))
	c.Even()
	wantViews(t, c, "zab", "zab")
	wantTold(t, c, tell(same))

	n, err = c.Run(nil)
	if n != 0 || err != nil {
		t.Errorf("%d steps of nothing, refused is %v", n, err)
	}
	wantTold(t, c, tell(same))
}

func TestRunTellsWhatWasRefused(t *testing.T) {
	c := newCluster(t, two())
	undo := link("undo", "Undo", -1)
	// undo 0, cursor 0, deliver, insert "abcde", insert of one byte alone
	n, err := c.Run([]byte{2, 0, 0, 0, 5, 0, 0, 0, 8, 0, 0, 0, 0, 0, 0, 0, 5, 0, 1, 2, 3, 4, 0})
	many, isMany := err.(*fault.Many)
	if n != 5 || !isMany || len(many.Errs) != 3 {
		t.Fatalf("%d steps, refused is %v", n, err)
	}
	wantRefusal(t, many.Errs[0], api.ErrNone, link("cluster", "Run", 0), link("cluster", "Step", 2), link("replica", "Undo", -1), undo)
	wantRefusal(t, many.Errs[1], api.ErrNone, link("cluster", "Run", 2), link("cluster", "Step", 8))
	wantRefusal(t, many.Errs[2], api.ErrFull, link("cluster", "Run", 3), link("cluster", "Step", 0), link("replica", "Insert", 0))

	// one alone is not joined
	n, err = c.Run([]byte{5, 0, 0, 0, 9})
	if n != 2 {
		t.Errorf("%d steps", n)
	}
	wantRefusal(t, err, api.ErrNone, link("cluster", "Run", 1), link("cluster", "Step", 9))
}

// P19.4

// kindsOf are the kinds of the messages that a replica is to send.
func kindsOf(r *replica.Replica) (kinds []int) {
	for _, p := range r.Parts().Out {
		kinds = append(kinds, packet.Kind(p.Bytes))
	}
	return kinds
}

func TestFairBringsBatches(t *testing.T) {
	c := newCluster(t, config(2, 40, 2, 0), insert(0, 0, "abcde"), insert(1, 0, "xyz"), step(api.StepDrop), step(api.StepDrop))
	for i, want := range [][2]string{{"abcdexy", "abxyz"}, {"abcdexyz", "abcdxyz"}, {"abcdexyz", "abcdexyz"}, {"abcdexyz", "abcdexyz"}} {
		c.Fair()
		if c.Replica(0).View() != want[0] || c.Replica(1).View() != want[1] {
			t.Errorf("behind round %d there are %q and %q", i, c.Replica(0).View(), c.Replica(1).View())
		}
	}
	wantWay(t, c)
	if sent, arrived, _, _ := c.Bag().Counts(); sent != 2 || arrived != 0 {
		t.Errorf("%d were sent, %d have arrived", sent, arrived)
	}
}

// All digests are sent ahead of the first reply: what comes in by one reply
// goes on in the next round alone.
func TestFairAsksFirst(t *testing.T) {
	c := newCluster(t, config(3, 90, 4, 4), propose(0), step(api.StepDrop), step(api.StepDrop))
	c.Fair()
	// 1 and 2 have voted, and know nothing of each other's vote
	for i, want := range [][]int{{1, 0, 0}, {1, 1, 0}, {1, 0, 1}} {
		if got := c.Replica(i).Rounds()[0].Votes; !slices.Equal(got[:3], want) {
			t.Errorf("replica %d knows the votes %v, not %v", i, got, want)
		}
	}
	wantWay(t, c, [2]int{1, 0}, [2]int{1, 2}, [2]int{2, 0}, [2]int{2, 1})
	wantKinds(t, c, api.State, api.State, api.State, api.State)
	c.Fair()
	if c.Replica(0).Epoch() != 1 || c.Replica(1).Epoch() != 0 || c.Replica(2).Epoch() != 0 {
		t.Error("the round is decided elsewhere, or told already")
	}
	wantWay(t, c, [2]int{1, 0}, [2]int{1, 2}, [2]int{2, 0}, [2]int{2, 1}, [2]int{0, 1}, [2]int{0, 2})
}

// What was to go out already is sent at the end, of each replica ahead of what
// the round makes go out; it is not handed over.
func TestFairSendsTheRest(t *testing.T) {
	c := newCluster(t, config(3, 90, 4, 4), propose(2), step(api.StepDrop), step(api.StepDrop), insert(1, 0, "rest"))
	c.Bag().Clear()
	ok(t, c.Replica(1).Sync(2))
	ok(t, c.Replica(0).Sync(1))
	ok(t, c.Replica(0).Take(message(t, api.Message{Kind: api.Digest, From: 2})))
	ok(t, c.Replica(2).Sync(0))
	if !slices.Equal(kindsOf(c.Replica(0)), []int{api.Digest, api.Reply}) {
		t.Fatalf("to go out are %v", kindsOf(c.Replica(0)))
	}
	c.Fair()
	wantWay(t, c, [2]int{0, 1}, [2]int{0, 2}, [2]int{0, 1}, [2]int{0, 2}, [2]int{1, 2}, [2]int{1, 0}, [2]int{1, 2}, [2]int{2, 0})
	wantKinds(t, c, api.Digest, api.Reply, api.State, api.State, api.Digest, api.State, api.State, api.Digest)
	wantViews(t, c, "rest", "rest", "rest")
}

// What is refused in a fair round is nobody's answer, and stops nothing.
func TestFairGoesOnBehindRefusals(t *testing.T) {
	c := newCluster(t, two(), propose(1), deliver(0), deliver(0), insert(1, 0, "x")) // 1 is in epoch 1
	if c.Replica(1).Epoch() != 1 || c.Replica(0).Epoch() != 0 || !c.Replica(0).Frozen() {
		t.Fatal("1 is not one ahead")
	}
	c.Fair() // 1 refuses 0's reply of the lower epoch, 0 takes that of the higher one
	wantViews(t, c, "x", "x")
	if !c.Even() || c.Replica(0).Epoch() != 1 {
		t.Error("the round has brought nothing")
	}
}

// P19.5

func TestLoadOfActs(t *testing.T) {
	c := newCluster(t, config(3, 90, 4, 4), insert(0, 0, "ab"), insert(1, 0, "c"), erase(0, 0, 1))
	wantLoad(t, c, 2*3+2*1, 0)
	wantDone(t, c, deliver(0))
	wantLoad(t, c, 6, 0)
	wantDone(t, c, step(api.StepDouble), step(api.StepDrop), deliver(0), deliver(0)) // 1's to 0 and 2
	wantLoad(t, c, 4, 0)
	wantDone(t, c, step(api.StepFair))
	wantLoad(t, c, 0, 0)
	// acts that are held are to come still
	c.Bag().Clear()
	wantDone(t, c, insert(2, 0, "d"), insert(2, 0, "e"), deliver(2))
	if len(c.Replica(0).Held()) != 1 {
		t.Fatal("nothing is held")
	}
	wantLoad(t, c, 4, 0)
}

// In a later epoch all that was issued counts, in an earlier one nothing.
func TestLoadOfOtherEpochs(t *testing.T) {
	c := newCluster(t, two(), insert(0, 0, "ab"), deliver(0), propose(0), deliver(0), deliver(0))
	if c.Replica(0).Epoch() != 1 || c.Replica(1).Epoch() != 0 {
		t.Fatal("0 is not one ahead")
	}
	wantLoad(t, c, 0, 1)
	wantDone(t, c, insert(0, 0, "x"), erase(0, 1, 1))
	wantLoad(t, c, 2, 1)
	wantDone(t, c, propose(0))
	wantLoad(t, c, 2, 1+1+3)
	c.Bag().Clear()
	wantDone(t, c, step(api.StepFair)) // 1 takes in the commit, and two acts
	wantLoad(t, c, 0, 1+2)
	if c.Settle(9) > 2 || c.Replica(1).Epoch() != 2 || c.Issued(0, 0) != 2 || c.Issued(1, 0) != 2 {
		t.Error("it does not come to an end")
	}
}

// The stages of a round: 3 where it is not known, 2 where the coordinator
// lacks the vote, 1 till the decision is known, then 0.
func TestLoadOfStages(t *testing.T) {
	c := newCluster(t, config(3, 90, 4, 4), propose(0))
	wantLoad(t, c, 0, 1+3+3)
	wantDone(t, c, deliver(0)) // 1 has voted
	wantLoad(t, c, 0, 1+2+3)
	wantDone(t, c, deliver(1)) // 0 knows it
	wantLoad(t, c, 0, 1+1+3)
	wantDone(t, c, insert(2, 0, "x"), deliver(0)) // 2 votes No
	wantLoad(t, c, 2, 1+1+2)
	c.Bag().Swap(0, c.Bag().Len()-2)
	wantDone(t, c, deliver(0)) // 0 aborts
	wantLoad(t, c, 2, 0+1+1)
	if c.Replica(0).Frozen() {
		t.Fatal("0 is frozen")
	}
	// a newer round of one coordinator: the older one is decided where it is known
	wantDone(t, c, propose(0))
	wantLoad(t, c, 2, 1+(1+3)+(1+3))
	c.Settle(9)
	wantLoad(t, c, 0, 0)
}

// A coordinator in a later epoch has nothing to learn of a vote any more.
func TestLoadOfCoordinatorAhead(t *testing.T) {
	c := newCluster(t, config(3, 90, 4, 4), propose(0), propose(1))
	wantLoad(t, c, 0, (1+3)+(3+1)+(3+3))
	c.Bag().Clear()
	reply := api.Message{Kind: api.State, From: 2, Rounds: c.Replica(0).Rounds()}
	reply.Rounds[0].Votes = [api.MaxReplicas]int{1, 1, 1}
	ok(t, c.Replica(0).Take(message(t, reply)))
	if c.Replica(0).Epoch() != 1 {
		t.Fatal("0 has not committed")
	}
	wantLoad(t, c, 0, 0+(3+1)+(3+3))
	ok(t, c.Replica(2).Take(message(t, api.Message{Kind: api.State, From: 1, Rounds: c.Replica(1).Rounds()})))
	wantLoad(t, c, 0, (3+1)+(3+2))
	state := api.Message{Kind: api.State, From: 2}
	state.Rounds[0] = api.Round{Number: 1, Votes: [api.MaxReplicas]int{1}}
	ok(t, c.Replica(1).Take(message(t, state)))
	wantLoad(t, c, 0, (1+1)+(3+2))
}

// A round that is committed at once is remembered by the Number that it had.
func TestLoadOfOneAlone(t *testing.T) {
	c := newCluster(t, config(1, 5, 1, 0), insert(0, 0, "ab"), erase(0, 0, 1))
	for epoch := 1; epoch < 4; epoch++ {
		wantDone(t, c, propose(0))
		wantLoad(t, c, 0, 0)
		if r := c.Replica(0); r.Epoch() != epoch || r.Len() != 1 || r.Credit() != 4 {
			t.Errorf("behind it it is %+v", r.Parts())
		}
	}
}

// What is refused is not remembered.
func TestRefusedIsNotRemembered(t *testing.T) {
	c := newCluster(t, two(), propose(0))
	before := c.Load()
	wantRefused(t, c, propose(0), api.ErrBusy, link("replica", "Propose", -1), link("flatten", "Propose", 0))
	wantRefused(t, c, insert(0, 0, "x"), api.ErrFrozen, link("replica", "Insert", 0))
	if c.Load() != before || c.Issued(0, 0) != 0 {
		t.Errorf("Load is %v, was %v", c.Load(), before)
	}
}

// P19.6

func TestSettle(t *testing.T) {
	fresh := func() *cluster.Cluster { return newCluster(t, config(2, 40, 1, 0), insert(0, 0, "abcde")) }
	for _, row := range []struct{ most, played, left int }{{least, 0, 5}, {-1, 0, 5}, {0, 0, 5}, {1, 1, 4}, {4, 4, 1}, {5, 5, 0}, {6, 5, 0}, {most, 5, 0}} {
		c := fresh()
		if got := c.Settle(row.most); got != row.played {
			t.Errorf("Settle(%d) has played %d rounds, not %d", row.most, got, row.played)
		}
		wantLoad(t, c, row.left, 0)
		if c.Even() != (row.left == 0) {
			t.Errorf("Even is %v", c.Even())
		}
		if c.Settle(0) != 0 || c.Settle(most) != row.left || c.Settle(most) != 0 {
			t.Error("Settle does not come to an end")
		}
	}
	// stages alone make it play, too
	c := newCluster(t, two(), propose(0))
	if c.Settle(most) != 3 || c.Replica(1).Epoch() != 1 {
		t.Error("the round is not brought to its end")
	}
}

// stuck is a session of which a message that was not honest has made one in
// which something is to come for ever: the commit came of a vote of 1's that
// it had never given, so it does not take it in.
func stuck(t testing.TB) *cluster.Cluster {
	t.Helper()
	c := newCluster(t, two())
	state := api.Message{Kind: api.State, From: 1}
	state.Rounds[0] = api.Round{Number: 1, Cut: api.Clock{2}, Votes: [api.MaxReplicas]int{0, 1}}
	_, err := c.Bag().Send(1, 0, message(t, state))
	ok(t, err)
	wantDone(t, c, deliver(0))
	return c
}

// An edit that fills a cut ends the epoch in which its acts were issued.
func TestIssuedWhereAnEditEndsTheEpoch(t *testing.T) {
	c := stuck(t)
	wantDone(t, c, insert(0, 0, "ab"))
	if c.Replica(0).Epoch() != 1 || c.Issued(0, 0) != 2 || c.Issued(1, 0) != 0 {
		t.Errorf("in epoch %d there were %d acts", c.Replica(0).Epoch(), c.Issued(0, 0))
	}
	wantLoad(t, c, 2, 0)
}

func TestSettleEndsNevertheless(t *testing.T) {
	c := stuck(t)
	wantDone(t, c, insert(0, 0, "ab"))
	ok(t, c.Replica(0).Sync(1))
	for _, most := range []int{1, 2, 3, most} {
		if got := c.Settle(most); got != most {
			t.Errorf("Settle(%d) has played %d rounds", most, got)
		}
		wantLoad(t, c, 2, 0)
	}
	wantKinds(t, c, api.Acts, api.State, api.Digest)
}

func TestEven(t *testing.T) {
	c := newCluster(t, config(3, 90, 4, 4), insert(1, 0, "a"))
	for i := range 2 {
		if c.Even() {
			t.Errorf("they are even behind %d parcels", i)
		}
		wantDone(t, c, deliver(0))
	}
	if !c.Even() {
		t.Error("they are not even")
	}
	// a cursor, an undo stack and rounds make no difference
	wantDone(t, c, step(api.StepCursor, 1), propose(2))
	if !c.Even() {
		t.Error("they are not even")
	}
}

// Even holds epoch, clock and elements against each other, each for itself.
func TestEvenOfEach(t *testing.T) {
	// other epochs, clocks and elements alike
	c := newCluster(t, two(), propose(0), deliver(0), deliver(0))
	if c.Replica(0).Epoch() != 1 || c.Replica(0).Clock() != c.Replica(1).Clock() || c.Even() {
		t.Error("two epochs are even")
	}
	// other clocks, elements alike
	c = newCluster(t, two(), insert(0, 0, "a"), deliver(0), erase(0, 0, 1), step(api.StepUndo))
	if !slices.Equal(c.Replica(0).Elements(), c.Replica(1).Elements()) || c.Even() {
		t.Error("two clocks are even")
	}
	// other elements, clocks alike: 1 was told another act 1 of 0
	c = newCluster(t, two())
	m := api.Message{Kind: api.Acts, Acts: []api.Act{{Op: api.Op{Kind: api.Insert, Char: 'b'}, Number: 1}}}
	ok(t, c.Replica(1).Take(message(t, m)))
	wantDone(t, c, insert(0, 0, "a"))
	if c.Replica(0).Clock() != c.Replica(1).Clock() || c.Even() {
		t.Error("two models are even")
	}
}

func TestIssued(t *testing.T) {
	c := newCluster(t, two(), insert(0, 0, "ab"), insert(1, 0, "c"), erase(0, 0, 1), step(api.StepFair), propose(1), step(api.StepFair), step(api.StepFair), step(api.StepFair), rewrite(1, "x"))
	want := map[[2]int]int{{0, 0}: 3, {0, 1}: 1, {1, 1}: 3}
	for _, epoch := range []int{least, -1, 0, 1, 2, 3, most} {
		for _, i := range []int{least, -1, 0, 1, 2, 7, 8, 9, most} {
			if got := c.Issued(epoch, i); got != want[[2]int{epoch, i}] {
				t.Errorf("Issued(%d, %d) is %d", epoch, i, got)
			}
		}
	}
}

func TestIssuedOfEight(t *testing.T) {
	c := newCluster(t, config(8, 90, 4, 4), insert(7, 0, "ab"))
	if c.Issued(0, 7) != 2 || c.Issued(0, 8) != 0 || c.Issued(0, 6) != 0 {
		t.Errorf("%d and %d acts were issued", c.Issued(0, 7), c.Issued(0, 8))
	}
}

// R4: two sessions know nothing of each other.
func TestTwoSessions(t *testing.T) {
	a, b := newCluster(t, two(), insert(0, 0, "ab")), newCluster(t, two())
	before := tell(b)
	wantDone(t, a, deliver(0), propose(0), insert(1, 0, "x"), step(api.StepFair))
	wantTold(t, b, before)
	wantDone(t, b, insert(0, 0, "ab"), deliver(0), propose(0), insert(1, 0, "x"), step(api.StepFair))
	wantTold(t, b, tell(a))
}
