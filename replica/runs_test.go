package replica_test

import (
	"testing"

	"barrow/api"
	"barrow/packet"
	"barrow/replica"
)

// Each row of the chapter's table, in its order.
func TestRunsOfEdits(t *testing.T) {
	a, b := pair(t, two)
	wantCredit(t, a, 4)
	ok(t, a.Insert(0, "ab"))
	wantCredit(t, a, 2)
	wantView(t, a, "ab")
	out := a.Out()
	if len(out) != 1 || out[0].To != 1 {
		t.Fatalf("there goes out %v", out)
	}
	m := out[0].Bytes
	if read, err := packet.Read(m); err != nil || read.Kind != api.Acts || len(read.Acts) != 2 {
		t.Errorf("the message is %v, %v", read, err)
	}

	wantRefusal(t, a.Insert(1, "xyz"), api.ErrFull, here("Insert", 1))
	wantRefusal(t, a.Insert(3, "x"), api.ErrRange, here("Insert", 3))
	wantRefusal(t, a.Insert(0, "\xff"), api.ErrText, here("Insert", 0))

	for range 2 {
		ok(t, b.Take(m))
		wantView(t, b, "ab")
	}

	ok(t, a.Erase(0, 1))
	wantView(t, a, "b")
	ok(t, a.Undo())
	wantView(t, a, "ab")
	ok(t, a.Redo())
	wantView(t, a, "b")
	ok(t, a.Undo())
	wantView(t, a, "ab")
	ok(t, a.Undo())
	wantView(t, a, "")
	wantRefusal(t, a.Undo(), api.ErrNone, here("Undo", -1), link("undo", "Undo", -1))
}

func TestRunsOfRounds(t *testing.T) {
	a, b := pair(t, two)
	ok(t, a.Insert(0, "abc"), a.Erase(1, 1))
	carry(t, a, b)
	ok(t, a.Propose())
	wantFrozen(t, a, true)
	wantRefusal(t, a.Insert(0, "x"), api.ErrFrozen, here("Insert", 0))
	wantRefusal(t, a.Erase(0, 0), api.ErrFrozen, here("Erase", 0))

	m, to := messages(t, a)
	if len(m) != 1 || m[0].Kind != api.State || to[0] != 1 {
		t.Fatalf("there goes out %v to %v", m, to)
	}
	ok(t, b.Take(raw(t, m[0])))
	wantFrozen(t, b, true)
	m, to = messages(t, b)
	if len(m) != 1 || m[0].Kind != api.State || to[0] != 0 {
		t.Fatalf("there goes out %v to %v", m, to)
	}
	ok(t, a.Take(raw(t, m[0])))
	wantEpoch(t, a, 1)
	wantFrozen(t, a, false)
	m, to = messages(t, a)
	if len(m) != 1 || m[0].Kind != api.State || to[0] != 1 {
		t.Fatalf("there goes out %v to %v", m, to)
	}

	ok(t, b.Take(raw(t, m[0])))
	for _, r := range []*replica.Replica{a, b} {
		wantEpoch(t, r, 1)
		if r.Len() != 2 || r.Live() != 2 {
			t.Errorf("Len is %d, Live %d", r.Len(), r.Live())
		}
		wantCredit(t, r, 3)
	}
}

func TestRunsOfMessages(t *testing.T) {
	a, b := pair(t, config(2, 20, 4, 4))
	ok(t, b.Insert(0, "abcdef"))
	lose(b)
	ok(t, a.Sync(1))
	ok(t, b.Take(a.Out()[0].Bytes))
	wantOut(t, b, []api.Message{{Kind: api.Reply, From: 1, Acts: b.Acts()[:4]}}, 0)

	wantRefusal(t, a.Take(raw(t, state(1, 1, api.Rounds{}))), api.ErrOrder, here("Take", -1))
	wantRefusal(t, a.Take(raw(t, state(1, 2, api.Rounds{}))), api.ErrEpoch, here("Take", -1))

	wantRefusal(t, a.Take([]byte("garbage")), api.ErrForm, here("Take", -1), link("packet", "Read", 0))
	wantRefusal(t, a.Take([]byte{3, 1, 0, 0}), api.ErrShort, here("Take", -1), link("packet", "Read", 4), link("wire", "Number", 4))
	wantRefusal(t, a.Take(raw(t, state(0, 0, api.Rounds{}))), api.ErrArg, here("Take", -1))
	wantRefusal(t, a.Take(raw(t, state(5, 0, api.Rounds{}))), api.ErrArg, here("Take", -1))
}

func TestRunsOfCursorRewriteAndOne(t *testing.T) {
	a, b := pair(t, config(2, 20, 4, 4))
	ok(t, a.Insert(0, "hello"), a.Move(5))
	carry(t, a, b)
	ok(t, b.Insert(0, "xx"))
	carry(t, a, b)
	wantCursor(t, a, 7)

	r := made(t, two, 0)
	ok(t, r.Insert(0, "abc"), r.Rewrite("axc"))
	wantView(t, r, "axc")
	wantDepth(t, r, 2, 0)
	ok(t, r.Undo())
	wantView(t, r, "abc")

	one := made(t, config(1, 3, 1, 0), 0)
	ok(t, one.Insert(0, "abc"), one.Erase(0, 3), one.Propose())
	wantEpoch(t, one, 1)
	wantCredit(t, one, 3)
}

// The chapter's examples.
func TestExamples(t *testing.T) {
	a, b := pair(t, two)
	ok(t, a.Insert(0, "ab"))
	carry(t, a, b)
	for p := range 3 {
		ok(t, a.Insert(p, ""))
	}
	wantRefusal(t, a.Insert(3, ""), api.ErrRange, here("Insert", 3))
	freeze(t, a)
	wantRefusal(t, a.Insert(0, ""), api.ErrFrozen, here("Insert", 0))

	wantCredit(t, made(t, config(2, 7, 4, 4), 0), 3)

	lose(a)
	ok(t, a.Take(raw(t, api.Message{Kind: api.Digest, From: 1})))
	wantOut(t, a, []api.Message{{Kind: api.Reply, Acts: a.Acts(), Rounds: a.Rounds()}}, 1)
}

// begun is a pair that has one text, of the replica 0; the rest of the
// examples of the whole is said of that.
func begun(t *testing.T, text string) (a, b *replica.Replica) {
	t.Helper()
	a, b = pair(t, two)
	ok(t, a.Insert(0, text))
	carry(t, a, b)
	wantView(t, b, text)
	return a, b
}

func wantBoth(t *testing.T, a, b *replica.Replica, want string, elements int) {
	t.Helper()
	carry(t, a, b)
	wantView(t, a, want)
	wantView(t, b, want)
	if a.Len() != elements || b.Len() != elements {
		t.Errorf("there are %d and %d elements", a.Len(), b.Len())
	}
}

// The examples of the whole, 3 to 6, as far as they go here.
func TestExamplesOfTheWhole(t *testing.T) {
	a, b := begun(t, "ab")
	ok(t, a.Insert(1, "x"), b.Insert(1, "y"))
	wantBoth(t, a, b, "axyb", 4)

	a, b = begun(t, "abc")
	ok(t, a.Erase(1, 1), b.Insert(2, "z"))
	wantBoth(t, a, b, "azc", 4)

	a, b = begun(t, "abc")
	ok(t, a.Erase(1, 1), b.Erase(1, 1), a.Undo())
	wantBoth(t, a, b, "ac", 3)

	a, _ = begun(t, "abcd")
	wantRefusal(t, a.Insert(4, "e"), api.ErrFull, here("Insert", 4))
}

// The examples of the whole, 8 to 10.
func TestMoreExamplesOfTheWhole(t *testing.T) {
	a, b := begun(t, "ab")
	freeze(t, a)
	ok(t, b.Insert(0, "x"))
	carry(t, a, b)
	wantFrozen(t, a, false)
	wantFrozen(t, b, false)
	wantEpoch(t, a, 0)
	wantBoth(t, a, b, "xab", 3)

	a, b = begun(t, "ab")
	ok(t, a.Insert(2, "c"))
	lose(a)
	ok(t, b.Sync(0))
	wantBoth(t, a, b, "abc", 3)

	a, b = begun(t, "ab")
	ok(t, a.Move(2), b.Insert(0, "zz"))
	wantBoth(t, a, b, "zzab", 4)
	wantCursor(t, a, 4)
}
