package replica_test

import (
	"math/rand"
	"slices"
	"strings"
	"testing"

	"barrow/api"
	"barrow/clock"
	"barrow/diff"
	"barrow/fault"
	"barrow/flatten"
	"barrow/history"
	"barrow/packet"
	"barrow/replica"
)

// moment is an epoch and what is delivered of it.
type moment struct {
	epoch int
	clock api.Clock
}

// proposal is a round that was begun.
type proposal struct{ epoch, coordinator, number int }

// A session is played by honest replicas alone; parcels may be lost, doubled
// and late. At each step all is checked that the chapter says to follow.
type session struct {
	t         testing.TB
	below     func(n int) int // a number from 0 to n - 1
	config    api.Config
	l         []*replica.Replica
	way       []api.Parcel
	seen      map[moment][]api.Element
	issued    map[int]api.Clock // by the epoch
	proposals []proposal
}

func newSession(t testing.TB, below func(n int) int, c api.Config) *session {
	return &session{t: t, below: below, config: c, l: all(t, c), seen: map[moment][]api.Element{}, issued: map[int]api.Clock{}}
}

// text has one to three characters.
func (s *session) text() string {
	return strings.Repeat(string([]rune{'a', 'b', 0xE9, 0x4E16}[s.below(4)]), 1+s.below(3))
}

// check is P16.13 and P16.14 of a replica as it stands, and W2.
func (s *session) check(r *replica.Replica) {
	s.t.Helper()
	if r.Len() > s.config.Model || r.Credit() < 0 || r.Cursor() < 0 || r.Cursor() > r.Live() {
		s.t.Fatalf("it is %+v", tell(r))
	}
	now := moment{r.Epoch(), r.Clock()}
	elements := r.Elements()
	if known, there := s.seen[now]; there && !slices.Equal(known, elements) {
		s.t.Fatalf("at %v there are %v and %v", now, known, elements)
	}
	s.seen[now] = elements
	var have api.Clock
	for _, act := range r.Acts() {
		if !clock.Ready(have, act) {
			s.t.Fatalf("%v is delivered at %v", act, have)
		}
		have[act.Op.Replica]++
	}
	if have != r.Clock() {
		s.t.Fatalf("%v is delivered, the clock is %v", have, r.Clock())
	}
	issued := s.issued[r.Epoch()]
	issued[r.Self()] = max(issued[r.Self()], r.Clock()[r.Self()])
	s.issued[r.Epoch()] = issued
	if !clock.Covers(issued, r.Clock()) {
		s.t.Fatalf("%v is delivered of %v", r.Clock(), issued)
	}
}

// wantEdit: such an edit, with a right text and places in range, is refused as
// P16.14 and W5 say, else not at all; then the view is the one that was meant.
func (s *session) wantEdit(r *replica.Replica, edit func() error, inserts int, want string) bool {
	s.t.Helper()
	before := tell(r)
	err := edit()
	var why error
	switch {
	case before.frozen:
		why = api.ErrFrozen
	case inserts > before.credit:
		why = api.ErrFull
	}
	if fault.Named(fault.Code(err)) != why {
		s.t.Fatalf("%v, want %v", err, why)
	}
	if err != nil {
		if !sameTold(tell(r), before) {
			s.t.Fatalf("what was refused has changed something")
		}
		return false
	}
	if r.View() != want || r.Credit() != before.credit-inserts || r.Epoch() != before.epoch {
		s.t.Fatalf("the view %q has become %q, want %q", before.view, r.View(), want)
	}
	s.check(r)
	return true
}

func (s *session) insert(r *replica.Replica) bool {
	text, view, p := s.text(), []rune(r.View()), s.below(r.Live()+1)
	count := len([]rune(text))
	want := string(view[:p]) + text + string(view[p:])
	done := s.wantEdit(r, func() error { return r.Insert(p, text) }, count, want)
	if done && r.Cursor() != p+count {
		s.t.Fatalf("the cursor is at %d", r.Cursor())
	}
	return done
}

func (s *session) erase(r *replica.Replica) bool {
	view, p := []rune(r.View()), s.below(r.Live()+1)
	n := s.below(min(3, len(view)-p) + 1)
	done := s.wantEdit(r, func() error { return r.Erase(p, n) }, 0, string(view[:p])+string(view[p+n:]))
	if done && n > 0 && r.Cursor() != p {
		s.t.Fatalf("the cursor is at %d", r.Cursor())
	}
	return done && n > 0
}

func (s *session) rewrite(r *replica.Replica) bool {
	view := []rune(r.View())
	p := s.below(len(view) + 1)
	want := string(view[:p]) + s.text() + string(view[p+s.below(len(view)-p+1):])
	edits, err := diff.Edits(r.View(), want)
	ok(s.t, err)
	inserts := 0
	for _, e := range edits {
		inserts += len([]rune(e.Insert))
	}
	cursor := r.Parts().Cursor
	done := s.wantEdit(r, func() error { return r.Rewrite(want) }, inserts, want)
	if r.Parts().Cursor != cursor {
		s.t.Fatal("the cursor has moved")
	}
	return done && len(edits) > 0
}

// thereAndBack is P16.15 and W8: an edit, an undo, a redo, an undo.
func (s *session) thereAndBack(r *replica.Replica) {
	was := r.View()
	edit := []func(r *replica.Replica) bool{s.insert, s.erase, s.rewrite}[s.below(3)]
	if !edit(r) {
		return
	}
	made := r.View()
	for range 1 + s.below(2) {
		s.wantEdit(r, r.Undo, 0, was)
		s.wantEdit(r, r.Redo, 0, made)
	}
	s.wantEdit(r, r.Undo, 0, was)
}

// again undoes or redoes, whatever was done meanwhile.
func (s *session) again(r *replica.Replica) {
	undos, redos := r.Depth()
	call, depth := r.Undo, undos
	if s.below(2) == 0 {
		call, depth = r.Redo, redos
	}
	frozen := r.Frozen()
	err := call()
	switch {
	case depth == 0 && fault.Code(err) != api.CodeNothing,
		depth > 0 && frozen && fault.Code(err) != api.CodeFrozen,
		depth > 0 && !frozen && err != nil:
		s.t.Fatalf("at the depth %d, frozen %v: %v", depth, frozen, err)
	}
	s.check(r)
}

// goesOn: where an epoch has ended by a call, the view has stayed.
func (s *session) goesOn(r *replica.Replica, call func() error) error {
	s.t.Helper()
	before := tell(r)
	err := call()
	s.check(r)
	if r.Epoch() == before.epoch {
		return err
	}
	var text []rune
	base := r.Parts().Base
	for _, e := range base {
		text = append(text, e.Char)
	}
	started, e := history.New(r.Epoch(), base)
	ok(s.t, e)
	if r.Epoch() != before.epoch+1 || string(text) != before.view || started.Model().Live() != len(base) {
		s.t.Fatalf("of %q there is %q in epoch %d", before.view, string(text), r.Epoch())
	}
	if r.Clock() == (api.Clock{}) && (r.View() != before.view || r.Len() != r.Live() || r.Cursor() != before.cursor) {
		s.t.Fatalf("%+v has become %+v", before, tell(r))
	}
	// nothing of its own can have come already
	if r.Credit() != (s.config.Model-len(base))/s.config.Replicas {
		s.t.Fatalf("the credit is %d with %d elements", r.Credit(), len(base))
	}
	return err
}

func (s *session) propose(r *replica.Replica) {
	now := proposal{r.Epoch(), r.Self(), r.Rounds()[r.Self()].Number + 1}
	err := s.goesOn(r, r.Propose)
	if err == nil {
		s.proposals = append(s.proposals, now)
	} else if fault.Code(err) != api.CodeBusy {
		s.t.Fatal(err)
	}
}

// take: honest messages are refused because they are late, or because there is
// no room to wait, for nothing else.
func (s *session) take(r *replica.Replica, raw []byte) {
	s.t.Helper()
	err := s.goesOn(r, func() error { return r.Take(raw) })
	for _, code := range fault.Codes(err) {
		if code != api.CodeEpoch && code != api.CodeRoom {
			s.t.Fatal(err)
		}
	}
}

func (s *session) arrive() {
	if len(s.way) == 0 {
		return
	}
	k := s.below(len(s.way))
	p := s.way[k]
	if s.below(6) > 0 {
		s.way = slices.Delete(s.way, k, k+1)
	}
	if s.below(8) > 0 {
		s.take(s.l[p.To], p.Bytes)
	}
}

func (s *session) step() {
	r := s.l[s.below(len(s.l))]
	switch n := s.below(40); {
	case n < 6:
		s.insert(r)
	case n < 9:
		s.erase(r)
	case n < 11:
		s.rewrite(r)
	case n < 15:
		s.thereAndBack(r)
	case n < 18:
		s.again(r)
	case n < 19:
		ok(s.t, r.Move(s.below(r.Live()+1)))
	case n < 21:
		s.propose(r)
	case n < 22:
		r.Sync((r.Self() + 1) % len(s.l))
	case n < 23:
		s.l[r.Self()] = from(s.t, r.Parts())
	case n < 24:
		s.wantProgress()
	default:
		s.arrive()
	}
	s.way = append(s.way, r.Out()...)
}

// playFair is P19.4: each one asks each other one.
func (s *session) playFair() {
	var asked, told, rest []api.Parcel
	pick := func(r *replica.Replica, kind int) (l []api.Parcel) {
		for _, p := range r.Out() {
			if packet.Kind(p.Bytes) == kind {
				l = append(l, p)
			} else {
				rest = append(rest, p)
			}
		}
		return l
	}
	for _, r := range s.l {
		for to := range s.l {
			if to != r.Self() {
				ok(s.t, r.Sync(to))
			}
		}
		asked = append(asked, pick(r, api.Digest)...)
	}
	for _, p := range asked {
		s.take(s.l[p.To], p.Bytes)
		told = append(told, pick(s.l[p.To], api.Reply)...)
	}
	for _, p := range told {
		s.take(s.l[p.To], p.Bytes)
	}
	for _, r := range s.l {
		pick(r, 0)
	}
	s.way = append(s.way, rest...)
}

// toCome is P19.5: acts that are not delivered, and stages of rounds.
func (s *session) toCome() int {
	sum := 0
	for _, r := range s.l {
		for epoch, issued := range s.issued {
			if epoch == r.Epoch() {
				sum += clock.Lag(r.Clock(), issued)
			} else if epoch > r.Epoch() {
				sum += clock.Lag(api.Clock{}, issued)
			}
		}
		for _, p := range s.proposals {
			if p.epoch > r.Epoch() {
				sum += 3
			} else if p.epoch == r.Epoch() {
				theirs := s.l[p.coordinator].Rounds()[p.coordinator]
				if s.l[p.coordinator].Epoch() > p.epoch {
					theirs = api.Round{Number: most}
				}
				sum += flatten.Stage(r.Rounds()[p.coordinator], theirs, p.number, r.Self())
			}
		}
	}
	return sum
}

// wantProgress is W6.
func (s *session) wantProgress() {
	s.t.Helper()
	before := s.toCome()
	s.playFair()
	if after := s.toCome(); after > before || after == before && before > 0 {
		s.t.Fatalf("of %d there is %d to come behind a fair round", before, after)
	}
}

// wantEven brings all together, and holds them against each other.
func (s *session) wantEven() {
	s.t.Helper()
	for s.toCome() > 0 {
		s.wantProgress()
	}
	for _, r := range s.l {
		if r.Epoch() != s.l[0].Epoch() || r.Clock() != s.l[0].Clock() || !slices.Equal(r.Elements(), s.l[0].Elements()) || r.Frozen() {
			s.t.Fatalf("they part: %+v and %+v", tell(r), tell(s.l[0]))
		}
	}
}

// wantHides: each has restored nothing that it has not erased; so what one
// has erased stays erased whatever another one takes back (P16.15, W8).
func (s *session) wantHides(r *replica.Replica) {
	s.t.Helper()
	log, err := history.New(r.Epoch(), r.Parts().Base)
	ok(s.t, err)
	erased := map[api.ID]*[api.MaxReplicas]int{}
	for _, e := range r.Elements() {
		erased[e.ID] = &[api.MaxReplicas]int{}
	}
	for _, act := range r.Acts() {
		form, err := log.Take(act)
		ok(s.t, err)
		e, _ := log.Model().At(form.At)
		n := &erased[e.ID][act.Op.Replica]
		switch act.Op.Kind {
		case api.Erase:
			*n++
		case api.Restore:
			*n--
		}
		if *n < 0 {
			s.t.Fatalf("%v restores what it has not erased", act)
		}
	}
	for _, e := range r.Elements() {
		sum := 0
		for _, n := range erased[e.ID] {
			sum += n
		}
		if sum != e.Hides {
			s.t.Fatalf("%v is erased %d times", e, sum)
		}
	}
}

// wantFlat is W7, and W5 of the credit: a proposal and some fair rounds throw
// the tombstones away, and as much as the credit can be inserted.
func (s *session) wantFlat() {
	s.t.Helper()
	epoch, view := s.l[0].Epoch(), s.l[0].View()
	s.propose(s.l[s.below(len(s.l))])
	for range 3 * len(s.l) {
		s.playFair()
	}
	for _, r := range s.l {
		if r.Epoch() != epoch+1 || r.View() != view || r.Len() != r.Live() || r.Frozen() || r.Credit() != (s.config.Model-r.Len())/s.config.Replicas {
			s.t.Fatalf("behind %q in epoch %d it is %+v", view, epoch, tell(r))
		}
	}
	for _, r := range s.l {
		wantRefusal(s.t, r.Insert(0, strings.Repeat("x", r.Credit()+1)), api.ErrFull, here("Insert", 0))
		ok(s.t, r.Insert(0, strings.Repeat("x", r.Credit())))
		s.check(r)
	}
	s.wantEven()
}

func (s *session) play(steps int) {
	for range steps {
		s.step()
	}
	for _, r := range s.l {
		s.wantHides(r)
	}
	s.wantEven()
	s.wantFlat()
}

// P16.13, P16.14, P16.15; W2, W4, W5, W6, W8
func TestHonestSessions(t *testing.T) {
	for seed := range int64(250) {
		below := rand.New(rand.NewSource(seed)).Intn
		s := newSession(t, below, config(1+below(5), below(60), 1+below(4), below(5)))
		s.play(120)
	}
}

func FuzzHonestSessions(f *testing.F) {
	f.Add([]byte{1, 20, 2, 3, 0, 0, 0, 0, 2, 1, 1})
	f.Add([]byte("some steps of a session, as they come"))
	f.Fuzz(func(t *testing.T, raw []byte) {
		below := func(n int) int {
			if len(raw) == 0 {
				return 0
			}
			x := int(raw[0])
			raw = raw[1:]
			return x % n
		}
		s := newSession(t, below, config(1+below(5), below(60), 1+below(4), below(5)))
		for len(raw) > 0 {
			s.step()
		}
		s.play(0)
	})
}
