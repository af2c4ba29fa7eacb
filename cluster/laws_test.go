package cluster_test

import (
	"bytes"
	"errors"
	"math/rand"
	"slices"
	"strings"
	"testing"

	"barrow/api"
	"barrow/clock"
	"barrow/cluster"
	"barrow/diff"
	"barrow/fault"
	"barrow/image"
	"barrow/packet"
	"barrow/replica"
	"barrow/script"
)

// site is what is held of a replica against what it becomes.
type site struct {
	epoch, credit, cursor int
	clock                 api.Clock
	anchor                api.Anchor
	frozen                bool
	view, base            string
	baseLen, undos, redos int
	elements              []api.Element
}

func siteOf(r *replica.Replica) site {
	p := r.Parts()
	x := site{epoch: r.Epoch(), credit: r.Credit(), cursor: r.Cursor(), clock: r.Clock(), anchor: p.Cursor, frozen: r.Frozen(),
		view: r.View(), base: textOf(p.Base), baseLen: len(p.Base), elements: r.Elements()}
	x.undos, x.redos = r.Depth()
	return x
}

func textOf(l []api.Element) string {
	var text []rune
	for _, e := range l {
		if e.Hides <= 0 {
			text = append(text, e.Char)
		}
	}
	return string(text)
}

// live are the IDs of the live elements up to an index, in order.
func live(l []api.Element) (ids []api.ID) {
	for _, e := range l {
		if e.Hides <= 0 {
			ids = append(ids, e.ID)
		}
	}
	return ids
}

// moment is an epoch and what is delivered of it.
type moment struct {
	epoch int
	clock api.Clock
}

// A watch plays steps on a session, and holds each against the laws.
type watch struct {
	t      testing.TB
	c      *cluster.Cluster
	config api.Config
	seen   map[moment][]api.Element
	models [][]api.Element // those of seen, in order
	sent   int             // parcels that were looked at
}

func newWatch(t testing.TB, given api.Config) *watch {
	x := &watch{t: t, c: newCluster(t, given), config: given, seen: map[moment][]api.Element{}}
	x.checkAll()
	return x
}

func (x *watch) sites() (l []site) {
	for i := range x.c.Replicas() {
		l = append(l, siteOf(x.c.Replica(i)))
	}
	return l
}

// sum is what Load has still to come.
func (x *watch) sum() int {
	load := x.c.Load()
	if load.Acts < 0 || load.Stages < 0 {
		x.t.Fatalf("Load is %v", load)
	}
	return load.Acts + load.Stages
}

// step is W4, W5, W6 and W10 of a step, and all that holds behind each one.
func (x *watch) step(s api.Step) error {
	x.t.Helper()
	before, toCome := x.sites(), x.sum()
	err := x.c.Step(s)
	x.wantWhy(s, err)
	self := fold(s.A, len(before))
	after := x.sites()
	if s.Kind <= api.StepRewrite {
		x.wantEdit(s, err, before[self], after[self])
	}
	for i := range before {
		isOwn := i == self && s.Kind <= api.StepCursor
		if after[i].epoch != before[i].epoch {
			x.wantNext(before[i], after[i])
		} else if !isOwn {
			x.wantOwnAsItWas(before[i], after[i])
		}
	}
	if s.Kind == api.StepFair {
		x.wantLess(toCome)
	}
	if err == nil && s.Kind == api.StepCursor && after[self].cursor != fold(s.B, len([]rune(before[self].view))+1) {
		x.t.Fatalf("%+v has put the cursor at %d", s, after[self].cursor)
	}
	x.checkAll()
	return err
}

// wantWhy is W10: the reason and the places of a refusal.
func (x *watch) wantWhy(s api.Step, err error) {
	x.t.Helper()
	if err == nil {
		return
	}
	var top *fault.Fault
	if !errors.As(err, &top) || top.Layer != "cluster" || top.Call != "Step" || top.At != s.Kind {
		x.t.Fatalf("%+v is refused by %v", s, err)
	}
	codes := fault.Codes(err)
	if len(codes) == 0 {
		x.t.Fatalf("%v has no reason", err)
	}
	for _, code := range codes {
		if !errors.Is(err, fault.Named(code)) {
			x.t.Fatalf("%v is not %v", err, fault.Named(code))
		}
	}
	below := fault.Chain(err)[1:]
	if len(below) > 0 && below[0].Layer != "replica" && below[0].Layer != "bag" || len(below) == 0 && codes[0] != api.CodeNothing {
		x.t.Fatalf("%+v is refused by %v", s, err)
	}
	if s.Kind == api.StepDeliver {
		for _, code := range codes {
			// honest messages come too late, or find no room to wait
			if code != api.CodeEpoch && code != api.CodeRoom && code != api.CodeNothing {
				x.t.Fatal(err)
			}
		}
	}
}

// meant is what an edit is to make of a view, where the cursor is then, and how
// many characters come.
func (x *watch) meant(s api.Step, before site) (want string, cursor, inserts int) {
	view := []rune(before.view)
	p := fold(s.B, len(view)+1)
	switch s.Kind {
	case api.StepInsert:
		inserts = len([]rune(s.Text))
		cursor = before.cursor
		if inserts > 0 {
			cursor = p + inserts
		}
		return string(view[:p]) + s.Text + string(view[p:]), cursor, inserts
	case api.StepErase:
		n := fold(s.C, len(view)-p+1)
		cursor = before.cursor
		if n > 0 {
			cursor = p
		}
		return string(view[:p]) + string(view[p+n:]), cursor, 0
	}
	edits, err := diff.Edits(before.view, s.Text)
	ok(x.t, err)
	for _, e := range edits {
		inserts += len([]rune(e.Insert))
	}
	return s.Text, -1, inserts
}

// wantEdit is W4, and W5 of refusals.
func (x *watch) wantEdit(s api.Step, err error, before, after site) {
	x.t.Helper()
	var why error
	turns := s.Kind == api.StepUndo || s.Kind == api.StepRedo
	want, cursor, inserts := "", -1, 0
	if !turns {
		want, cursor, inserts = x.meant(s, before)
	}
	switch {
	case s.Kind == api.StepUndo && before.undos == 0, s.Kind == api.StepRedo && before.redos == 0:
		why = api.ErrNone
	case before.frozen:
		why = api.ErrFrozen
	case inserts > before.credit:
		why = api.ErrFull
	}
	if fault.Named(fault.Code(err)) != why {
		x.t.Fatalf("%+v is refused by %v, want %v", s, err, why)
	}
	if err != nil {
		want, cursor, inserts, turns = before.view, before.cursor, 0, false
	}
	if turns {
		want = after.view
	}
	if after.view != want || after.credit != before.credit-inserts || after.epoch != before.epoch || cursor >= 0 && after.cursor != cursor {
		x.t.Fatalf("%+v makes of\n%+v\n%+v", s, before, after)
	}
	x.wantStay(s, before, after)
}

// wantStay: the elements that an edit does not name stay live, or tombstones,
// and new ones stand in one piece where they are meant to.
func (x *watch) wantStay(s api.Step, before, after site) {
	x.t.Helper()
	was, is := live(before.elements), live(after.elements)
	p := fold(s.B, len(was)+1)
	switch s.Kind {
	case api.StepInsert:
		came := len(is) - len(was)
		if came < 0 || !slices.Equal(is[:p], was[:p]) || !slices.Equal(is[p+came:], was[p:]) {
			x.t.Fatalf("%+v makes of %v %v", s, was, is)
		}
	case api.StepErase:
		went := len(was) - len(is)
		if went < 0 || !slices.Equal(is, slices.Delete(slices.Clone(was), p, p+went)) {
			x.t.Fatalf("%+v makes of %v %v", s, was, is)
		}
	}
}

// wantOwnAsItWas: what others do leaves the credit, the stack and the cursor's
// character; the cursor stays behind that (W4).
func (x *watch) wantOwnAsItWas(before, after site) {
	x.t.Helper()
	if after.credit != before.credit || after.undos != before.undos || after.redos != before.redos || after.anchor != before.anchor {
		x.t.Fatalf("of\n%+v\nthere has become\n%+v", before, after)
	}
	if !clock.Covers(after.clock, before.clock) {
		x.t.Fatalf("%v has become %v", before.clock, after.clock)
	}
	at := slices.IndexFunc(after.elements, func(e api.Element) bool { return e.ID == after.anchor.ID })
	want := 0
	if !after.anchor.Front {
		want = len(live(after.elements[:at+1]))
	}
	if after.cursor != want {
		x.t.Fatalf("the cursor is at %d, behind %v of %v", after.cursor, after.anchor, after.elements)
	}
}

// wantNext is W5 of a commit that was taken in: the model has become the view,
// the view has stayed, the credit is due.
func (x *watch) wantNext(before, after site) {
	x.t.Helper()
	if after.epoch != before.epoch+1 || after.base != before.view || after.baseLen != len([]rune(before.view)) {
		x.t.Fatalf("of %q there is %q in epoch %d", before.view, after.base, after.epoch)
	}
	if after.credit != (x.config.Model-after.baseLen)/x.config.Replicas || after.undos != 0 || after.redos != 0 {
		x.t.Fatalf("the credit is %d with %d elements", after.credit, after.baseLen)
	}
	if after.clock == (api.Clock{}) && (after.view != before.view || after.cursor != before.cursor || len(after.elements) != after.baseLen) {
		x.t.Fatalf("of\n%+v\nthere has become\n%+v", before, after)
	}
}

// wantLess is W6 and P19.8.
func (x *watch) wantLess(before int) {
	x.t.Helper()
	if now := x.sum(); now > before || now == before && before > 0 {
		x.t.Fatalf("of %d there is %d still to come behind a fair round", before, now)
	}
}

func (x *watch) checkAll() {
	x.t.Helper()
	for i := range x.c.Replicas() {
		x.check(x.c.Replica(i))
	}
	x.checkParcels()
}

// check is W2, W3, W5 and P19.7 of a replica as it stands.
func (x *watch) check(r *replica.Replica) {
	x.t.Helper()
	if r.Len() > x.config.Model || r.Credit() < 0 || r.Len() < r.Live() {
		x.t.Fatalf("there are %d elements, the credit is %d", r.Len(), r.Credit())
	}
	isFrozen := false
	for _, round := range r.Rounds() {
		isFrozen = isFrozen || round.Number > 0 && round.Decision == 0 && round.Votes[r.Self()] == api.Yes
	}
	if r.Frozen() != isFrozen {
		x.t.Fatalf("frozen is %v in %v", r.Frozen(), r.Rounds())
	}
	var have api.Clock
	for _, act := range r.Acts() {
		if !clock.Ready(have, act) {
			x.t.Fatalf("%v is delivered at %v", act, have)
		}
		have[act.Op.Replica]++
	}
	for i, count := range have {
		if count > x.c.Issued(r.Epoch(), i) {
			x.t.Fatalf("%v is delivered, %d acts of %d were issued", have, x.c.Issued(r.Epoch(), i), i)
		}
	}
	if have != r.Clock() || have[r.Self()] != x.c.Issued(r.Epoch(), r.Self()) {
		x.t.Fatalf("%v is delivered, the clock is %v", have, r.Clock())
	}
	x.checkModel(moment{r.Epoch(), have}, r.Elements(), r.View())
}

func (x *watch) checkModel(now moment, l []api.Element, view string) {
	x.t.Helper()
	if known, there := x.seen[now]; there {
		if !slices.Equal(known, l) || textOf(known) != view {
			x.t.Fatalf("at %v there are %v and %v", now, known, l)
		}
		return
	}
	x.seen[now] = l
	place := map[api.ID]int{}
	for i, e := range l {
		place[e.ID] = i + 1
	}
	if len(place) != len(l) {
		x.t.Fatalf("an ID stands twice in %v", l)
	}
	for _, other := range x.models {
		last := 0
		for _, e := range other {
			at := place[e.ID]
			if at > 0 && at < last {
				x.t.Fatalf("%v and %v stand in two orders", other, l)
			}
			last = max(last, at)
		}
	}
	x.models = append(x.models, l)
}

// checkParcels is W9 of messages: each one has one form in bytes.
func (x *watch) checkParcels() {
	x.t.Helper()
	for _, p := range x.c.Bag().All() {
		if p.Serial <= x.sent {
			continue
		}
		m, err := packet.Read(p.Bytes)
		ok(x.t, err)
		raw, err := packet.Bytes(m)
		ok(x.t, err)
		if m.From != p.From || p.To == p.From || p.To >= x.config.Replicas || !bytes.Equal(raw, p.Bytes) {
			x.t.Fatalf("%+v is %+v", p, m)
		}
		if m.Kind == api.Reply && len(m.Acts) > x.config.Batch {
			x.t.Fatalf("%d acts in a reply", len(m.Acts))
		}
	}
	sent, arrived, dropped, doubled := x.c.Bag().Counts()
	if sent-arrived-dropped+doubled != x.c.Bag().Len() {
		x.t.Fatalf("%d were sent, %d arrived, %d dropped, %d doubled", sent, arrived, dropped, doubled)
	}
	x.sent = sent
}

// wantUndone is W8: directly behind an edit that has issued acts it is undone,
// done again, and undone.
func (x *watch) wantUndone(s api.Step, times int) {
	x.t.Helper()
	r := x.c.Replica(fold(s.A, x.c.Replicas()))
	was, before := r.View(), r.Clock()
	if x.step(s) != nil || r.Clock() == before {
		return
	}
	views := []string{was, r.View()}
	for i := range times {
		ok(x.t, x.step(step([]int{api.StepUndo, api.StepRedo}[i%2], s.A)))
		if got := r.View(); got != views[i%2] {
			x.t.Fatalf("behind %+v and %d more there is %q, not %q", s, i+1, got, views[i%2])
		}
	}
}

// end is W6, W7, P19.8 and P19.9.
func (x *watch) end(by int) {
	x.t.Helper()
	toCome := x.sum()
	if toCome > 0 && x.c.Even() && x.c.Load().Acts > 0 {
		x.t.Fatal("they are even with acts to come")
	}
	for toCome > 0 {
		x.c.Fair()
		x.wantLess(toCome)
		toCome = x.sum()
		x.checkAll()
	}
	x.c.Fair()
	if x.sum() != 0 || !x.c.Even() {
		x.t.Fatal("they are not even")
	}
	x.wantFlat(by)
	for i := range x.c.Replicas() {
		credit := x.c.Replica(i).Credit()
		if x.step(insert(i, 0, strings.Repeat("x", credit+1))) == nil {
			x.t.Fatalf("more than %d are accepted", credit)
		}
		ok(x.t, x.step(insert(i, i, strings.Repeat("x", credit))))
	}
	toCome = x.sum()
	if n := x.c.Settle(toCome); n > toCome || x.sum() != 0 || !x.c.Even() {
		x.t.Fatalf("behind %d rounds for %d they are not even", n, toCome)
	}
	x.checkAll()
}

// wantFlat is W7: a proposal and 3 fair rounds for each replica.
func (x *watch) wantFlat(by int) {
	x.t.Helper()
	before := x.sites()
	ok(x.t, x.step(propose(by)))
	for range 3 * x.c.Replicas() {
		x.c.Fair()
	}
	for i, was := range before {
		now := siteOf(x.c.Replica(i))
		if now.epoch != was.epoch+1 || len(now.elements) != len([]rune(was.view)) || now.frozen || now.view != was.view {
			x.t.Fatalf("of\n%+v\nthere has become\n%+v", was, now)
		}
		x.wantNext(was, now)
	}
	if x.sum() != 0 {
		x.t.Fatal("there is something to come")
	}
	x.checkAll()
}

// sessionOf is one that some numbers make.
func sessionOf(t testing.TB, below func(n int) int) *watch {
	return newWatch(t, config(1+below(5), below(60), 1+below(4), below(5)))
}

// plainStep is one that a script may have; those that bring a session on are
// more frequent than others.
func plainStep(below func(n int) int) api.Step {
	kinds := []byte{0, 0, 0, 0, 0, 1, 1, 2, 3, 4, 5, 6, 7, 8, 8, 8, 8, 8, 8, 8, 8, 8, 8, 9, 10, 11, 12, 13}
	raw := []byte{kinds[below(len(kinds))], byte(below(256)), byte(below(256)), byte(below(256))}
	for range 5 {
		raw = append(raw, byte(below(256)))
	}
	raw[4] %= 5
	return script.Read(raw)[0]
}

func (x *watch) play(below func(n int) int, steps int) {
	for range steps {
		s := plainStep(below)
		isEdit := s.Kind == api.StepInsert || s.Kind == api.StepErase || s.Kind == api.StepRewrite
		if isEdit && below(4) == 0 {
			x.wantUndone(s, 1+below(4))
		} else {
			x.step(s)
		}
	}
}

// W2 to W10, P19.7 to P19.9
func TestLaws(t *testing.T) {
	for seed := range int64(150) {
		below := rand.New(rand.NewSource(seed)).Intn
		x := sessionOf(t, below)
		x.play(below, 100)
		x.end(below(x.c.Replicas()))
	}
}

func TestLawsOfManyReplicas(t *testing.T) {
	for seed := range int64(20) {
		below := rand.New(rand.NewSource(seed)).Intn
		x := newWatch(t, config(6+below(3), 200, 1+below(9), below(9)))
		x.play(below, 150)
		x.end(below(x.c.Replicas()))
	}
}

func FuzzLaws(f *testing.F) {
	f.Add([]byte{1, 20, 2, 3, 0, 0, 0, 0, 2, 1, 1})
	f.Add([]byte("some steps of a session, as they come"))
	f.Fuzz(func(t *testing.T, raw []byte) {
		below := drawn(&raw)
		x := sessionOf(t, below)
		for len(raw) > 0 {
			x.play(below, 1)
		}
		x.end(0)
	})
}

// All sessions of three steps out of some that get into each other's way.
func TestLawsOfAllShortSessions(t *testing.T) {
	steps := []api.Step{
		insert(0, 0, "a"), insert(1, 1, "b"), erase(0, 0, 1), erase(1, 0, 1), step(api.StepUndo, 1), rewrite(0, "ba"),
		propose(0), propose(1), step(api.StepSync, 1), deliver(0), deliver(1), step(api.StepDrop), step(api.StepFair), step(api.StepReload, 1),
	}
	var play func(chosen []api.Step)
	play = func(chosen []api.Step) {
		if len(chosen) < 3 {
			for _, s := range steps {
				play(append(chosen, s))
			}
			return
		}
		x := newWatch(t, config(2, 9, 1, 1))
		for _, s := range append([]api.Step{insert(0, 0, "xy"), deliver(0)}, chosen...) {
			x.step(s)
		}
		x.end(1)
	}
	play(nil)
}

// W8: whatever others do meanwhile, their characters stay, and what they have
// erased stays erased.
func TestUndoAmongOthers(t *testing.T) {
	for seed := range int64(300) {
		below := rand.New(rand.NewSource(seed)).Intn
		x := newWatch(t, config(2+below(3), 90, 3, 3))
		for x.step(insert(below(4), below(9), "abcdef"[:1+below(6)])); below(4) > 0; {
			x.step(plainStep(below))
		}
		x.c.Settle(most)
		x.wantUndoneAmongOthers(below)
	}
}

func (x *watch) wantUndoneAmongOthers(below func(n int) int) {
	x.t.Helper()
	r := x.c.Replica(0)
	wanted := map[api.ID]int{} // 1: it is to be live
	for _, id := range live(r.Elements()) {
		wanted[id] = 1
	}
	s := []api.Step{insert(0, below(9), "uvw"), erase(0, below(9), below(9)), rewrite(0, "cuvdwa")}[below(3)]
	clockBefore := r.Clock()
	if x.step(s) != nil || r.Clock() == clockBefore {
		return
	}
	for range 6 {
		by := 1 + below(x.c.Replicas()-1)
		s := []api.Step{insert(by, below(9), "q"), erase(by, below(9), below(3)), deliver(below(99)), deliver(below(99))}[below(4)]
		before := live(x.c.Replica(by).Elements())
		err := x.step(s)
		if s.Kind == api.StepDeliver || err != nil {
			continue
		}
		after := live(x.c.Replica(by).Elements())
		for _, id := range after {
			if !slices.Contains(before, id) {
				wanted[id] = 1
			}
		}
		for _, id := range before {
			if !slices.Contains(after, id) {
				wanted[id] = -1
			}
		}
	}
	x.c.Settle(most)
	ok(x.t, x.step(step(api.StepUndo)))
	x.c.Settle(most)
	for _, e := range r.Elements() {
		if isLive := e.Hides <= 0; isLive != (wanted[e.ID] == 1) {
			x.t.Fatalf("behind an undo of %+v %v is live: %v, in %q", s, e, isLive, r.View())
		}
	}
	for i := range x.c.Replicas() {
		if got := x.c.Replica(i).View(); got != r.View() {
			x.t.Fatalf("replica %d shows %q, not %q", i, got, r.View())
		}
	}
}

// W9: a session of which the replicas are saved and loaded again and again
// goes on as one in which they never are.
func TestReloadedSessions(t *testing.T) {
	for seed := range int64(120) {
		below := rand.New(rand.NewSource(seed)).Intn
		given := config(1+below(4), below(40), 1+below(3), below(4))
		one, reloaded := newCluster(t, given), newCluster(t, given)
		for range 80 {
			s := plainStep(below)
			if s.Kind == api.StepReload {
				wantDone(t, reloaded, s)
				continue
			}
			wantSameRefusal(t, reloaded.Step(s), one.Step(s))
			wantTold(t, reloaded, tell(one))
			if t.Failed() {
				t.FailNow()
			}
		}
	}
}

// W9: any bytes are a replica, or refused at a place; what was saved is written
// the same again.
func TestSavedReplicasHaveOneForm(t *testing.T) {
	below := rand.New(rand.NewSource(7)).Intn
	x := newWatch(t, config(3, 60, 2, 2))
	x.play(below, 60)
	for i := range 3 {
		raw := image.Save(x.c.Replica(i))
		for range 300 {
			bad := bytes.Clone(raw)
			bad[below(len(bad))] = byte(below(256))
			r, err := image.Load(bad)
			_, hasPlace := fault.First(err)
			if (r == nil) != hasPlace || r != nil && !bytes.Equal(image.Save(r), bad) {
				t.Fatalf("% x is loaded as %v, %v", bad, r, err)
			}
		}
	}
}
