package replica_test

import (
	"slices"
	"unicode/utf8"

	"barrow/api"
	"barrow/clock"
	"barrow/diff"
	"barrow/fault"
	"barrow/packet"
	"barrow/xform"
)

// A plain replica does what the chapter says, sentence by sentence, on rows
// that are gone through from the front. Its calls tell the numbers of the
// reasons for which they refuse.
type plain struct {
	api.Parts
	row    []api.Element
	clock  api.Clock
	credit int
}

func newPlain(c api.Config, self int) *plain {
	return &plain{Parts: api.Parts{Config: c, Self: self, Cursor: api.Anchor{Front: true}}, credit: c.Model / c.Replicas}
}

func (x *plain) tell() told {
	return told{
		parts: x.Parts, config: x.Config, self: x.Self, epoch: x.Epoch, credit: x.credit,
		clock: x.clock, frozen: x.frozen(), rounds: x.Rounds, view: x.view(),
		len: len(x.row), live: len(x.live()), cursor: x.where(x.Cursor),
		undone: len(x.Done), redone: len(x.Undone),
		elements: x.row, acts: x.Acts, held: x.Held,
	}
}

// copied shares nothing that is ever changed in its place.
func (x *plain) copied() plain {
	y := *x
	y.row = slices.Clone(x.row)
	return y
}

// live are the model indexes of the live elements.
func (x *plain) live() (l []int) {
	for i, e := range x.row {
		if e.Hides <= 0 {
			l = append(l, i)
		}
	}
	return l
}

func (x *plain) view() string {
	var text []rune
	for _, i := range x.live() {
		text = append(text, x.row[i].Char)
	}
	return string(text)
}

func (x *plain) index(id api.ID) int {
	return slices.IndexFunc(x.row, func(e api.Element) bool { return e.ID == id })
}

// where is how many live elements stand up to that of the anchor; -1, if
// there is none.
func (x *plain) where(a api.Anchor) int {
	if a.Front {
		return 0
	}
	last := x.index(a.ID)
	count := 0
	for i := 0; i <= last; i++ {
		if x.row[i].Hides <= 0 {
			count++
		}
	}
	if last < 0 {
		return -1
	}
	return count
}

// gap is the anchor of a view position.
func (x *plain) gap(p int) api.Anchor {
	if p == 0 {
		return api.Anchor{Front: true}
	}
	return api.Anchor{ID: x.row[x.live()[p-1]].ID}
}

func isOpenRound(r api.Round) bool { return r.Number >= 1 && r.Decision == 0 }

func (x *plain) frozen() bool {
	for _, r := range x.Rounds {
		if isOpenRound(r) && r.Votes[x.Self] == api.Yes {
			return true
		}
	}
	return false
}

// apply does an operation; false, if there is an element of that ID.
func (x *plain) apply(op api.Op, id api.ID) bool {
	switch op.Kind {
	case api.Insert:
		if x.index(id) >= 0 {
			return false
		}
		x.row = slices.Insert(slices.Clone(x.row), op.At, api.Element{ID: id, Char: op.Char})
	case api.Erase:
		x.row[op.At].Hides++
	case api.Restore:
		x.row[op.At].Hides--
	}
	return true
}

func (x *plain) deliver(act api.Act, form api.Op) bool {
	if !x.apply(form, api.ID{Epoch: x.Epoch, Replica: act.Op.Replica, Number: act.Number}) {
		return false
	}
	x.Acts = append(slices.Clip(x.Acts), act)
	x.clock[act.Op.Replica]++
	return true
}

// issue tells the change, and false, if it is refused.
func (x *plain) issue(kind, at int, char rune) (api.Change, bool) {
	act := api.Act{Op: api.Op{Kind: kind, At: at, Char: char, Replica: x.Self}, Number: x.clock[x.Self] + 1, Clock: x.clock}
	if !x.deliver(act, act.Op) {
		return api.Change{}, false
	}
	return api.Change{Kind: kind, ID: x.row[at].ID}, true
}

// replace is P16.3 and P16.2 behind each other: erases, then inserts.
func (x *plain) replace(e api.Edit) (l []api.Change, fine bool) {
	for _, i := range x.live()[e.At : e.At+e.Erase] {
		c, fine := x.issue(api.Erase, i, 0)
		if !fine {
			return nil, false
		}
		l = append(l, c)
	}
	place := 0
	if e.At > 0 {
		place = x.live()[e.At-1] + 1
	}
	for i, char := range []rune(e.Insert) {
		c, fine := x.issue(api.Insert, place+i, char)
		if !fine {
			return nil, false
		}
		l = append(l, c)
		x.credit--
	}
	return l, true
}

// edit does edits of the view as one; the codes are those of a refusal in
// their midst.
func (x *plain) edit(l []api.Edit, cursor func(changes []api.Change) api.Anchor) []int {
	before := x.copied()
	var changes []api.Change
	for _, e := range l {
		more, fine := x.replace(e)
		if !fine {
			*x = before
			return []int{api.CodeTwice}
		}
		changes = append(changes, more...)
	}
	if len(changes) == 0 {
		return nil
	}
	x.Done, x.Undone = append(slices.Clip(x.Done), changes), nil
	if len(x.Done) > 64 {
		x.Done = x.Done[1:]
	}
	x.Cursor = cursor(changes)
	x.publish(len(before.Acts))
	return nil
}

// publish sends the acts from a number on, and settles.
func (x *plain) publish(first int) {
	x.send(api.Message{Kind: api.Acts, Acts: x.Acts[first:]}, -1)
	x.settle(false)
}

func (x *plain) insert(p int, text string) []int {
	switch {
	case !utf8.ValidString(text):
		return []int{api.CodeText}
	case p < 0 || p > len(x.live()):
		return []int{api.CodeRange}
	case x.frozen():
		return []int{api.CodeFrozen}
	case len([]rune(text)) > x.credit:
		return []int{api.CodeFull}
	}
	return x.edit([]api.Edit{{At: p, Insert: text}}, func(l []api.Change) api.Anchor { return api.Anchor{ID: l[len(l)-1].ID} })
}

func (x *plain) erase(p, n int) []int {
	live := len(x.live())
	switch {
	case p < 0 || p > live || n < 0 || n > live-p:
		return []int{api.CodeRange}
	case x.frozen():
		return []int{api.CodeFrozen}
	}
	return x.edit([]api.Edit{{At: p, Erase: n}}, func([]api.Change) api.Anchor { return x.gap(p) })
}

func (x *plain) rewrite(text string) []int {
	if !utf8.ValidString(text) {
		return []int{api.CodeText}
	}
	edits, err := diff.Edits(x.view(), text)
	if err != nil {
		return fault.Codes(err)
	}
	if x.frozen() {
		return []int{api.CodeFrozen}
	}
	count := 0
	for _, e := range edits {
		count += len([]rune(e.Insert))
	}
	if count > x.credit {
		return []int{api.CodeFull}
	}
	return x.edit(edits, func([]api.Change) api.Anchor { return x.Cursor })
}

func (x *plain) undo() []int {
	n := len(x.Done)
	if n == 0 {
		return []int{api.CodeNothing}
	}
	if x.frozen() {
		return []int{api.CodeFrozen}
	}
	last, first := x.Done[n-1], len(x.Acts)
	for i := range last {
		c := last[len(last)-1-i]
		kind := api.Erase
		if c.Kind == api.Erase {
			kind = api.Restore
		}
		x.issue(kind, x.index(c.ID), 0)
	}
	x.Done, x.Undone = x.Done[:n-1], append(slices.Clip(x.Undone), last)
	x.publish(first)
	return nil
}

func (x *plain) redo() []int {
	n := len(x.Undone)
	if n == 0 {
		return []int{api.CodeNothing}
	}
	if x.frozen() {
		return []int{api.CodeFrozen}
	}
	last, first := x.Undone[n-1], len(x.Acts)
	for _, c := range last {
		kind := api.Restore
		if c.Kind == api.Erase {
			kind = api.Erase
		}
		x.issue(kind, x.index(c.ID), 0)
	}
	x.Undone, x.Done = x.Undone[:n-1], append(slices.Clip(x.Done), last)
	if len(x.Done) > 64 {
		x.Done = x.Done[1:]
	}
	x.publish(first)
	return nil
}

func (x *plain) move(p int) []int {
	if p < 0 || p > len(x.live()) {
		return []int{api.CodeRange}
	}
	x.Cursor = x.gap(p)
	return nil
}

// send lays a message out, to one or (-1) to each other one.
func (x *plain) send(m api.Message, to int) {
	m.From, m.Epoch = x.Self, x.Epoch
	bytes, err := packet.Bytes(m)
	if err != nil {
		panic(err)
	}
	for other := range x.Config.Replicas {
		if other != x.Self && (to == -1 || to == other) {
			x.Out = append(slices.Clip(x.Out), api.Parcel{From: x.Self, To: other, Bytes: bytes})
		}
	}
}

func (x *plain) sync(to int) []int {
	if to < 0 || to >= x.Config.Replicas || to == x.Self {
		return []int{api.CodeArg}
	}
	x.send(api.Message{Kind: api.Digest, Clock: x.clock}, to)
	return nil
}

func (x *plain) propose() []int {
	own := &x.Rounds[x.Self]
	if isOpenRound(*own) || own.Number >= 1<<62 {
		return []int{api.CodeBusy}
	}
	*own = api.Round{Number: own.Number + 1, Cut: x.clock}
	x.settle(true)
	return nil
}

// settle is P16.8, with P12.5.
func (x *plain) settle(proposed bool) {
	before := x.Rounds
	for c := range x.Config.Replicas {
		r := &x.Rounds[c]
		if !isOpenRound(*r) || r.Votes[x.Self] != 0 {
			continue
		}
		if x.clock == r.Cut {
			r.Votes[x.Self] = api.Yes
		} else if !clock.Covers(r.Cut, x.clock) {
			r.Votes[x.Self] = api.No
		}
	}
	if own := &x.Rounds[x.Self]; isOpenRound(*own) {
		votes := own.Votes[:x.Config.Replicas]
		if slices.Contains(votes, api.No) {
			own.Decision = api.Abort
		} else if !slices.Contains(votes, 0) {
			own.Decision = api.Commit
		}
	}
	changed := x.Rounds != before
	if slices.ContainsFunc(x.Rounds[:], func(r api.Round) bool { return r.Decision == api.Commit }) {
		x.commit()
	}
	if changed || proposed {
		x.send(api.Message{Kind: api.State, Rounds: x.Rounds}, -1)
	}
}

// commit is P16.9.
func (x *plain) commit() {
	x.Cursor = x.gap(x.where(x.Cursor))
	var row []api.Element
	for _, i := range x.live() {
		row = append(row, x.row[i])
	}
	x.row, x.Base = row, slices.Clone(row)
	x.Epoch++
	x.Acts, x.Held, x.Done, x.Undone, x.clock, x.Rounds = nil, nil, nil, nil, api.Clock{}, api.Rounds{}
	x.credit = 0
	if room := x.Config.Model - len(row); room > 0 {
		x.credit = room / x.Config.Replicas
	}
}

// take is P16.10.
func (x *plain) take(raw []byte) []int {
	m, err := packet.Read(raw)
	if err != nil {
		return fault.Codes(err)
	}
	if m.From == x.Self || m.From >= x.Config.Replicas {
		return []int{api.CodeArg}
	}
	if m.Kind == api.Digest {
		x.answer(m)
		return nil
	}
	if m.Epoch < x.Epoch || m.Epoch > x.Epoch+1 || m.Epoch == x.Epoch+1 && m.Kind == api.Acts {
		return []int{api.CodeEpoch}
	}
	if m.Epoch == x.Epoch+1 {
		if !x.frozen() {
			return []int{api.CodeOrder}
		}
		x.commit()
	}
	var codes []int
	for _, act := range m.Acts {
		codes = append(codes, x.offer(act)...)
	}
	x.Held = slices.DeleteFunc(slices.Clone(x.Held), x.has)
	if m.Kind != api.Acts {
		x.join(m.Rounds)
	}
	x.settle(false)
	return codes
}

func (x *plain) answer(m api.Message) {
	reply := api.Message{Kind: api.Reply, Rounds: x.Rounds}
	for _, act := range x.Acts {
		lacking := m.Epoch < x.Epoch || m.Epoch == x.Epoch && act.Number > m.Clock[act.Op.Replica]
		if lacking && len(reply.Acts) < x.Config.Batch {
			reply.Acts = append(reply.Acts, act)
		}
	}
	x.send(reply, m.From)
}

// join is P12.2.
func (x *plain) join(rounds api.Rounds) {
	for c, other := range rounds {
		r := &x.Rounds[c]
		if other.Number > r.Number {
			*r = other
		}
		if other.Number != r.Number {
			continue
		}
		for k := range r.Votes {
			r.Cut[k] = max(r.Cut[k], other.Cut[k])
			r.Votes[k] = max(r.Votes[k], other.Votes[k])
		}
		r.Decision = max(r.Decision, other.Decision)
	}
}

func (x *plain) has(act api.Act) bool { return act.Number <= x.clock[act.Op.Replica] }

func (x *plain) isReady(act api.Act) bool { return clock.Ready(x.clock, act) }

func (x *plain) holds(act api.Act) bool {
	return slices.ContainsFunc(x.Held, func(h api.Act) bool { return h.Op.Replica == act.Op.Replica && h.Number == act.Number })
}

// isStranger: is it so as P16.10, 5 says, but for the Number?
func (x *plain) isStranger(act api.Act) bool {
	for r, n := range act.Clock {
		if n < 0 || r >= x.Config.Replicas && n > 0 {
			return true
		}
	}
	return act.Op.Replica >= x.Config.Replicas
}

func (x *plain) offer(act api.Act) (codes []int) {
	if x.isStranger(act) || act.Op.Replica == x.Self && act.Number > x.clock[x.Self] {
		return []int{api.CodeForm}
	}
	switch {
	case x.has(act):
		return nil
	case !x.isReady(act) && x.holds(act):
		return nil
	case !x.isReady(act) && len(x.Held) >= x.Config.Buffer:
		return []int{api.CodeRoom}
	case !x.isReady(act):
		x.Held = append(slices.Clip(x.Held), act)
		return nil
	}
	codes = append(codes, x.logTakes(act)...)
	for {
		i := slices.IndexFunc(x.Held, x.isReady)
		if i < 0 {
			return codes
		}
		next := x.Held[i]
		x.Held = slices.Delete(slices.Clone(x.Held), i, i+1)
		codes = append(codes, x.logTakes(next)...)
	}
}

// logTakes is P8.4, of an act that is ready.
func (x *plain) logTakes(act api.Act) []int {
	if !xform.Right(act.Op) {
		return []int{api.CodeForm}
	}
	context := map[api.ID]bool{}
	for _, e := range x.row {
		context[e.ID] = true
	}
	beside := x.besideOf(act.Clock)
	for _, other := range beside {
		delete(context, x.idOf(other))
	}
	if !xform.Valid(act.Op, len(context)) {
		return []int{api.CodeRange}
	}
	form := act.Op
	for _, other := range beside { // P8.5
		at := 0
		for _, e := range x.row {
			if e.ID == x.idOf(other) {
				break
			}
			if context[e.ID] {
				at++
			}
		}
		form = xform.T(form, api.Op{Kind: api.Insert, At: at, Replica: other.Op.Replica})
		context[x.idOf(other)] = true
	}
	if !x.deliver(act, form) {
		return []int{api.CodeTwice}
	}
	return nil
}

func (x *plain) idOf(act api.Act) api.ID {
	return api.ID{Epoch: x.Epoch, Replica: act.Op.Replica, Number: act.Number}
}

// besideOf are the delivered Inserts that a clock does not have.
func (x *plain) besideOf(c api.Clock) (l []api.Act) {
	for _, act := range x.Acts {
		if act.Op.Kind == api.Insert && act.Number > c[act.Op.Replica] {
			l = append(l, act)
		}
	}
	return l
}

// plainFrom is P16.12.
func plainFrom(p api.Parts) (*plain, []int) {
	c := p.Config
	form := []int{api.CodeForm}
	if c.Replicas < 1 || c.Replicas > 8 || c.Model < 0 || c.Model > 65536 || c.Batch < 1 || c.Batch > 256 || c.Buffer < 0 || c.Buffer > 256 ||
		p.Self < 0 || p.Self >= c.Replicas || p.Epoch < 0 || p.Epoch > 1<<40 {
		return nil, []int{api.CodeArg}
	}
	for _, e := range p.Base {
		if e.Hides != 0 || e.ID.Epoch < 0 || e.ID.Replica < 0 || e.ID.Number < 0 {
			return nil, form
		}
	}
	if len(p.Base) > c.Model {
		return nil, form
	}
	x := newPlain(c, p.Self)
	x.Epoch, x.credit = p.Epoch, (c.Model-len(p.Base))/c.Replicas
	for _, e := range p.Base {
		if !utf8.ValidRune(e.Char) {
			return nil, []int{api.CodeText}
		}
		if x.index(e.ID) >= 0 {
			return nil, []int{api.CodeTwice}
		}
		x.row = append(x.row, e)
	}
	if !x.mayHave(p) {
		return nil, form
	}
	if len(p.Done)+len(p.Undone) > 64 {
		return nil, []int{api.CodeArg}
	}
	for _, l := range slices.Concat(p.Done, p.Undone) {
		for _, ch := range l {
			if ch.Kind < 1 || ch.Kind > 3 || x.index(ch.ID) < 0 {
				return nil, form
			}
		}
		if len(l) == 0 {
			return nil, form
		}
	}
	if x.where(p.Cursor) < 0 || p.Cursor.Front && p.Cursor.ID != (api.ID{}) {
		return nil, form
	}
	for _, parcel := range p.Out {
		if parcel.Serial != 0 || parcel.From != p.Self || parcel.To == p.Self || parcel.To < 0 || parcel.To >= c.Replicas {
			return nil, form
		}
	}
	x.Parts = p
	return x, nil
}

// mayHave: acts, held acts and rounds. The acts are delivered, the held ones
// held.
func (x *plain) mayHave(p api.Parts) bool {
	for _, act := range p.Acts {
		if x.isStranger(act) || act.Op.Replica < 0 || !x.isReady(act) || x.logTakes(act) != nil {
			return false
		}
		if act.Op.Kind == api.Insert && act.Op.Replica == x.Self {
			x.credit--
		}
	}
	for _, act := range p.Held {
		if x.isStranger(act) || !packet.Right(api.Message{Kind: api.Acts, Acts: []api.Act{act}}) {
			return false
		}
		if x.has(act) || x.isReady(act) || x.holds(act) || len(x.Held) == x.Config.Buffer {
			return false
		}
		x.Held = append(x.Held, act)
	}
	return x.credit >= 0 && packet.Right(api.Message{Kind: api.Reply, Rounds: p.Rounds})
}
