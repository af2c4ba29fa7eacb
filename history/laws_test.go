package history_test

import (
	"math/rand"
	"slices"
	"strings"
	"testing"

	"barrow/api"
	"barrow/clock"
	"barrow/history"
)

// A meeting is some honest sites of one base; each issues by a replica number
// that is its own.
type meeting struct {
	testing.TB
	rnd      *rand.Rand
	base     []api.Element
	replicas []int
	logs     []*history.Log
	acts     []api.Act // all that were issued in this epoch
	rows     [][]api.ID
	erased   []map[api.ID]int // by each site, more often than restored
}

func newMeeting(t testing.TB, seed int, base []api.Element, replicas ...int) *meeting {
	t.Helper()
	m := &meeting{TB: t, rnd: rand.New(rand.NewSource(int64(seed))), base: base, replicas: replicas}
	m.logs = sites(t, len(replicas), base)
	for range replicas {
		m.erased = append(m.erased, map[api.ID]int{})
	}
	return m
}

// mayRestore are the places of what a site has erased.
func (m *meeting) mayRestore(s int) []int {
	var l []int
	for i, e := range m.logs[s].Model().Elements() {
		if m.erased[s][e.ID] == 1 {
			l = append(l, i)
		}
	}
	return l
}

// issue is an operation of a site's own, of any kind.
func (m *meeting) issue(s int) {
	m.Helper()
	l, r := m.logs[s], m.replicas[s]
	n := l.Model().Len()
	op := I(m.rnd.Intn(n+1), rune('a'+m.rnd.Intn(26)), r)
	back := m.mayRestore(s)
	switch k := m.rnd.Intn(10); {
	case k < 3 && n > 0:
		op = E(m.rnd.Intn(n), r)
	case k < 5 && len(back) > 0:
		op = R(back[m.rnd.Intn(len(back))], r)
	case k < 7 && l.Len() > 0: // the text goes on
		last, _ := l.Form(l.Len() - 1)
		op = I(min(last.At+1, n), rune('a'+m.rnd.Intn(26)), r)
	}
	if op.Kind != api.Insert {
		e, _ := l.Model().At(op.At)
		m.erased[s][e.ID] += map[int]int{api.Erase: 1, api.Restore: -1}[op.Kind]
	}
	m.acts = append(m.acts, issue(m, l, op))
	m.note(s)
}

// take offers an act to a site, ready or not (W2).
func (m *meeting) take(s int, act api.Act) {
	m.Helper()
	l := m.logs[s]
	have := l.Clock()
	switch {
	case clock.Has(have, act.Op.Replica, act.Number):
		refuseAct(m, l, act, api.ErrTwice)
	case !clock.Ready(have, act):
		refuseAct(m, l, act, api.ErrOrder)
	default:
		take(m, l, act)
		m.note(s)
	}
}

// note keeps a row, for W3, and looks for a Hides below 0 (P8.9).
func (m *meeting) note(s int) {
	m.Helper()
	var row []api.ID
	for e := range m.logs[s].Model().All() {
		row = append(row, e.ID)
		if e.Hides < 0 {
			m.Fatalf("the Hides of %v is %d", e.ID, e.Hides)
		}
	}
	m.rows = append(m.rows, row)
}

// play lets the sites issue and take, at random.
func (m *meeting) play(steps int) {
	m.Helper()
	for range steps {
		s := m.rnd.Intn(len(m.logs))
		switch k := m.rnd.Intn(8); {
		case k < 3 || len(m.acts) == 0:
			m.issue(s)
		case k < 5:
			m.take(s, m.acts[m.rnd.Intn(len(m.acts))])
		case k < 6: // as a message of many acts
			for _, act := range m.acts {
				if act.Op.Replica == m.acts[len(m.acts)-1].Op.Replica {
					m.take(s, act)
				}
			}
		default:
			for _, i := range m.rnd.Perm(len(m.acts))[:m.rnd.Intn(len(m.acts))+1] {
				m.take(s, m.acts[i])
			}
		}
	}
}

// end lets all sites take all acts: then they have one row (P8.8, W2).
func (m *meeting) end() {
	m.Helper()
	for s := range m.logs {
		for had := -1; had < m.logs[s].Len(); { // until a round brings nothing
			had = m.logs[s].Len()
			for _, i := range m.rnd.Perm(len(m.acts)) {
				m.take(s, m.acts[i])
			}
		}
		if n := m.logs[s].Len(); n != len(m.acts) {
			m.Fatalf("site %d has %d acts of %d", s, n, len(m.acts))
		}
		m.wantOrder(s)
	}
	wantAll(m, m.logs, m.logs[0].Model().View())
}

// wantOrder: each act once, and behind all its causes (W2).
func (m *meeting) wantOrder(s int) {
	m.Helper()
	var have api.Clock
	for _, act := range m.logs[s].Acts() {
		if !clock.Ready(have, act) {
			m.Fatalf("site %d has delivered %v behind %v", s, act, have)
		}
		have[act.Op.Replica]++
	}
}

// wantAlong is P8.8 of one act that was delivered behind others.
func wantAlong(t testing.TB, rnd *rand.Rand, base []api.Element, ahead []api.Act, act api.Act, form api.Op) {
	t.Helper()
	l := begun(t, 0, base)
	var beside []api.Act
	for _, x := range ahead {
		if clock.Has(act.Clock, x.Op.Replica, x.Number) {
			take(t, l, x)
		} else {
			beside = append(beside, x)
		}
	}
	op := act.Op
	for len(beside) > 0 {
		rnd.Shuffle(len(beside), func(i, k int) { beside[i], beside[k] = beside[k], beside[i] })
		i := slices.IndexFunc(beside, func(x api.Act) bool { return clock.Ready(l.Clock(), x) })
		if i < 0 {
			t.Fatalf("none of %v is ready", beside)
		}
		op = wantT(op, take(t, l, beside[i]))
		beside = slices.Delete(beside, i, i+1)
	}
	wantOp(t, "the operation along what is beside", op, form)
	if t.Failed() {
		t.Fatalf("of %v behind %v", act, ahead)
	}
}

// wantAgain is P8.10.
func wantAgain(t testing.TB, base []api.Element, l *history.Log) {
	t.Helper()
	again := begun(t, l.Epoch(), base)
	take(t, again, l.Acts()...)
	wantTold(t, again, told(l))
}

// isOneOrder: do the elements of both rows stand in one order in both?
func isOneOrder(a, b []api.ID) bool {
	place := map[api.ID]int{}
	for i, id := range a {
		place[id] = i
	}
	last := -1
	for _, id := range b {
		if i, ok := place[id]; ok {
			if i < last {
				return false
			}
			last = i
		}
	}
	return true
}

func (m *meeting) wantOneOrder() {
	m.Helper()
	for i, a := range m.rows {
		for _, b := range m.rows[:i] {
			if !isOneOrder(a, b) {
				m.Fatalf("the order is %v, and %v", a, b)
			}
		}
	}
}

// P8.8, P8.9, P8.10, W2, W3: sessions of some epochs.
func TestSessions(t *testing.T) {
	for seed := range 80 {
		base := old("abcdef"[:seed%7])
		m := newMeeting(t, seed, base, [][]int{{0, 1}, {3, 0, 7}, {5, 2, 1, 6}, {7, 6, 5, 4, 3, 2, 1, 0}}[seed%4]...)
		for range 3 {
			m.play(15 + seed%20)
			m.end()
			for s, l := range m.logs {
				acts := l.Acts()
				for i := range acts {
					form, _ := l.Form(i)
					if m.rnd.Intn(6) == 0 && l.Epoch() == 0 {
						wantAlong(t, m.rnd, base, acts[:i], acts[i], form)
					}
				}
				wantAgain(t, m.base, l)
				m.note(s)
			}
			m.nextEpoch()
		}
		m.wantOneOrder()
	}
}

// nextEpoch is Next at all sites.
func (m *meeting) nextEpoch() {
	m.Helper()
	m.acts = nil
	for s, l := range m.logs {
		l.Next()
		m.note(s)
		m.erased[s] = map[api.ID]int{}
	}
	m.base = m.logs[0].Model().Elements()
	wantAll(m, m.logs, m.logs[0].Model().View())
}

// eachOrder tells all orders of acts that keep causes ahead.
func eachOrder(acts []api.Act, tell func([]api.Act)) {
	var extend func(have api.Clock, done []api.Act)
	extend = func(have api.Clock, done []api.Act) {
		if len(done) == len(acts) {
			tell(done)
			return
		}
		for _, act := range acts {
			if clock.Ready(have, act) {
				next, _ := clock.Tick(have, act.Op.Replica)
				extend(next, append(done[:len(done):len(done)], act))
			}
		}
	}
	extend(api.Clock{}, nil)
}

// shown is a Log of acts that are taken in their order; Ready ones are OK.
func shown(t testing.TB, base []api.Element, acts []api.Act) *history.Log {
	t.Helper()
	l := begun(t, 0, base)
	for _, act := range acts {
		if _, err := l.Take(act); err != nil {
			t.Fatalf("Take of %v answers %v", act, err)
		}
	}
	return l
}

// knowledge is all clocks that a replica may have behind some acts: its own
// acts are known to it, and the causes of what it knows.
func knowledge(acts []api.Act, r int) []api.Clock {
	var all []api.Clock
	for set := range 1 << len(acts) {
		var c api.Clock
		ok := true
		for i, act := range acts {
			in := set>>i&1 == 1
			ok = ok && (in || act.Op.Replica != r)
			if in {
				ok = ok && clock.Ready(c, act)
				c[act.Op.Replica]++
			}
		}
		if ok {
			all = append(all, c)
		}
	}
	return all
}

// eachSession tells all sessions of so many acts: who issues what, knowing
// what.
func eachSession(t testing.TB, base []api.Element, replicas []int, kinds []int, acts []api.Act, more int, tell func([]api.Act)) {
	if more == 0 {
		tell(acts)
		return
	}
	for _, r := range replicas {
		for _, c := range knowledge(acts, r) {
			var known []api.Act
			for _, act := range acts {
				if clock.Has(c, act.Op.Replica, act.Number) {
					known = append(known, act)
				}
			}
			n := shown(t, base, known).Model().Len()
			for _, kind := range kinds {
				for at := range n + 1 {
					op := api.Op{Kind: kind, At: at, Replica: r}
					if kind == api.Insert {
						op.Char = rune('a' + len(acts))
					} else if at == n {
						continue
					}
					act := api.Act{Op: op, Number: c[r] + 1, Clock: c}
					eachSession(t, base, replicas, kinds, append(acts[:len(acts):len(acts)], act), more-1, tell)
				}
			}
		}
	}
}

// wantOneRow: in every order that keeps causes ahead, the acts make one row.
func wantOneRow(t testing.TB, base []api.Element, acts []api.Act) {
	t.Helper()
	var first []api.Element
	eachOrder(acts, func(order []api.Act) {
		got := shown(t, base, order).Model().Elements()
		if first == nil {
			first = got
		}
		if !slices.Equal(got, first) {
			t.Fatalf("%v make %v, and in another order %v", acts, first, got)
		}
	})
}

// P8.8, W2: every session of three acts, and of four Inserts.
func TestShortSessions(t *testing.T) {
	count := 0
	tell := func(base []api.Element) func([]api.Act) {
		return func(acts []api.Act) {
			count++
			wantOneRow(t, base, acts)
		}
	}
	for _, base := range [][]api.Element{nil, old("x")} {
		eachSession(t, base, []int{0, 4, 7}, []int{1, 2, 3}, nil, 3, tell(base))
	}
	eachSession(t, nil, []int{1, 2, 3}, []int{1}, nil, 4, tell(nil))
	if count < 1000 {
		t.Errorf("only %d sessions were gone through", count)
	}
}

// Long texts that were written at the same time stand one behind the other;
// each is taken at once, as it was written.
func TestLongTexts(t *testing.T) {
	const length = 5000
	l := sites(t, 3, nil)
	var acts [3][]api.Act
	for s, x := range l {
		for i := range length {
			acts[s] = append(acts[s], issue(t, x, I(i, rune('a'+s), s)))
		}
	}
	for s, x := range l {
		for k := range 3 {
			for _, act := range acts[k] {
				if _, err := x.Take(act); (err == nil) == (k == s) {
					t.Fatalf("site %d answers %v", s, err)
				}
			}
		}
	}
	text := strings.Repeat("a", length) + strings.Repeat("b", length) + strings.Repeat("c", length)
	wantAll(t, l, text)
}

// What is near to a text that goes on, and is not: P8.5 says where it goes.
func TestTextThatDoesNotGoOn(t *testing.T) {
	for _, x := range []struct {
		name  string
		acts  []api.Act // delivered; the last one is taken
		place int
	}{
		{"goes on", []api.Act{
			{Op: I(0, 'a', 3), Number: 1},
			{Op: I(0, 'x', 2), Number: 1},
			{Op: I(1, 'y', 2), Number: 2, Clock: api.Clock{2: 1}},
		}, 1},
		{"behind another's character, which came between", []api.Act{
			{Op: I(0, 'x', 2), Number: 1},
			{Op: I(1, 'a', 1), Number: 1, Clock: api.Clock{2: 1}},
			{Op: I(1, 'y', 2), Number: 2, Clock: api.Clock{2: 1}},
		}, 2},
		{"behind one that was learned", []api.Act{
			{Op: I(0, 'a', 1), Number: 1},
			{Op: I(0, 'x', 2), Number: 1},
			{Op: I(1, 'y', 2), Number: 2, Clock: api.Clock{1: 1, 2: 1}},
		}, 1},
		{"behind an erased one", []api.Act{
			{Op: I(0, 'a', 1), Number: 1},
			{Op: I(0, 'b', 3), Number: 1, Clock: api.Clock{1: 1}},
			{Op: E(0, 2), Number: 1, Clock: api.Clock{1: 1}},
			{Op: I(1, 'y', 2), Number: 2, Clock: api.Clock{1: 1, 2: 1}},
		}, 2},
		{"of another replica", []api.Act{
			{Op: I(0, 'x', 2), Number: 1},
			{Op: I(1, 'y', 3), Number: 1, Clock: api.Clock{2: 1}},
		}, 1},
		{"an Erase", []api.Act{
			{Op: I(0, 'a', 1), Number: 1},
			{Op: I(0, 'g', 3), Number: 1, Clock: api.Clock{1: 1}},
			{Op: I(0, 'x', 2), Number: 1, Clock: api.Clock{1: 1}},
			{Op: E(1, 2), Number: 2, Clock: api.Clock{1: 1, 2: 1}},
		}, 2},
	} {
		t.Run(x.name, func(t *testing.T) {
			l := begun(t, 0, nil)
			if form := take(t, l, x.acts...); form.At != x.place {
				t.Errorf("it stands at %d, not %d", form.At, x.place)
			}
		})
	}
}
