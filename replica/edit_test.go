package replica_test

import (
	"strings"
	"testing"

	"barrow/api"
	"barrow/replica"
)

const noText = "a\xff"

// P16.2
func TestInsert(t *testing.T) {
	r := made(t, config(2, 40, 4, 4), 1)
	ok(t, r.Insert(0, "aé"))
	wantView(t, r, "aé")
	wantCursor(t, r, 2)
	wantCredit(t, r, 18)
	ok(t, r.Insert(1, "世\n"))
	wantView(t, r, "a世\né")
	wantCursor(t, r, 3)
	wantCredit(t, r, 16)
	ok(t, r.Insert(4, "\U0010FFFF\x00\uFFFD"))
	wantView(t, r, "a世\né\U0010FFFF\x00\uFFFD")
	wantCredit(t, r, 13)
	wantDone(t, r,
		[]api.Change{change(api.Insert, id(0, 1, 1)), change(api.Insert, id(0, 1, 2))},
		[]api.Change{change(api.Insert, id(0, 1, 3)), change(api.Insert, id(0, 1, 4))},
		[]api.Change{change(api.Insert, id(0, 1, 5)), change(api.Insert, id(0, 1, 6)), change(api.Insert, id(0, 1, 7))})
	if c := r.Parts().Cursor; c != (api.Anchor{ID: id(0, 1, 7)}) {
		t.Errorf("the cursor is %v", c)
	}
	acts := r.Acts()
	for i, want := range []api.Act{
		act(api.Insert, 0, 'a', 1, 1, 0, 0), act(api.Insert, 1, 0xE9, 1, 2, 0, 1),
		act(api.Insert, 1, 0x4E16, 1, 3, 0, 2), act(api.Insert, 2, '\n', 1, 4, 0, 3),
		act(api.Insert, 4, 0x10FFFF, 1, 5, 0, 4), act(api.Insert, 5, 0, 1, 6, 0, 5), act(api.Insert, 6, 0xFFFD, 1, 7, 0, 6),
	} {
		if acts[i] != want {
			t.Errorf("the act %d is %v, want %v", i, acts[i], want)
		}
	}
}

// P16.2: the Model's Place is directly behind a live one, ahead of erased ones.
func TestInsertBesideErasedOnes(t *testing.T) {
	r := made(t, config(1, 40, 1, 0), 0)
	ok(t, r.Insert(0, "abcd"), r.Erase(0, 1), r.Erase(1, 1)) // a and c are erased
	ok(t, r.Insert(1, "xy"))
	wantView(t, r, "bxyd")
	ok(t, r.Insert(0, "z"))
	wantView(t, r, "zbxyd")
	var row []rune
	for _, e := range r.Elements() {
		row = append(row, e.Char)
	}
	if string(row) != "zabxycd" {
		t.Errorf("the row is %q", string(row))
	}
}

// P16.2: as much as the credit, and one more.
func TestInsertAtTheCredit(t *testing.T) {
	for credit := range 5 {
		r := made(t, config(3, 3*credit+2, 1, 0), 0)
		wantNothing(t, r, func() {
			wantRefusal(t, r.Insert(0, strings.Repeat("é", credit+1)), api.ErrFull, here("Insert", 0))
		})
		ok(t, r.Insert(0, strings.Repeat("é", credit)))
		wantCredit(t, r, 0)
		wantNothing(t, r, func() {
			wantRefusal(t, r.Insert(credit, "x"), api.ErrFull, here("Insert", credit))
			ok(t, r.Insert(0, ""))
		})
	}
}

// P16.2: what is erased or undone brings no credit back, and a redo takes none.
func TestCreditIsOfInsertsAlone(t *testing.T) {
	r := made(t, config(1, 5, 1, 0), 0)
	ok(t, r.Insert(0, "ab"))
	wantCredit(t, r, 3)
	ok(t, r.Erase(0, 2), r.Undo(), r.Undo(), r.Redo(), r.Redo(), r.Undo())
	wantCredit(t, r, 3)
	wantView(t, r, "ab")
	ok(t, r.Rewrite("axb"))
	wantCredit(t, r, 2)
}

// P16.2: the first that applies.
func TestInsertRefused(t *testing.T) {
	a, b := pair(t, two)
	ok(t, a.Insert(0, "ab"))
	carry(t, a, b)
	wantNothing(t, a, func() {
		for _, p := range []int{least, -1, 3, most} {
			wantRefusal(t, a.Insert(p, noText), api.ErrText, here("Insert", max(p, -1)))
			wantRefusal(t, a.Insert(p, "abc"), api.ErrRange, here("Insert", max(p, -1)))
			wantRefusal(t, a.Insert(p, ""), api.ErrRange, here("Insert", max(p, -1)))
		}
		wantRefusal(t, a.Insert(1, noText), api.ErrText, here("Insert", 1))
		wantRefusal(t, a.Insert(1, "\xed\xa0\x80"), api.ErrText, here("Insert", 1))
		wantRefusal(t, a.Insert(1, "abc"), api.ErrFull, here("Insert", 1))
	})
	freeze(t, a)
	wantNothing(t, a, func() {
		wantRefusal(t, a.Insert(1, noText), api.ErrText, here("Insert", 1))
		wantRefusal(t, a.Insert(3, "x"), api.ErrRange, here("Insert", 3))
		wantRefusal(t, a.Insert(1, "abc"), api.ErrFrozen, here("Insert", 1))
		wantRefusal(t, a.Insert(1, "x"), api.ErrFrozen, here("Insert", 1))
		wantRefusal(t, a.Insert(1, ""), api.ErrFrozen, here("Insert", 1))
	})
}

// P16.2, P16.3, P16.4: where nothing is to be done nothing is.
func TestEmptyEdits(t *testing.T) {
	r := made(t, two, 0)
	ok(t, r.Insert(0, "ab"), r.Insert(2, "c"), r.Undo(), r.Move(1))
	lose(r)
	wantNothing(t, r, func() {
		for p := range 3 {
			ok(t, r.Insert(p, ""), r.Erase(p, 0))
		}
		ok(t, r.Rewrite("ab"))
	})
	wantDepth(t, r, 1, 1)
}

// P16.3
func TestErase(t *testing.T) {
	r := made(t, config(2, 40, 4, 4), 0)
	ok(t, r.Insert(0, "abcdef"))
	lose(r)
	ok(t, r.Erase(1, 1))
	wantView(t, r, "acdef")
	wantCursor(t, r, 1)
	if c := r.Parts().Cursor; c != (api.Anchor{ID: id(0, 0, 1)}) {
		t.Errorf("the cursor is %v", c)
	}
	lose(r)
	ok(t, r.Erase(0, 3)) // a c d, about the erased b
	wantView(t, r, "ef")
	if c := r.Parts().Cursor; c != (api.Anchor{Front: true}) {
		t.Errorf("the cursor is %v", c)
	}
	wantCredit(t, r, 14)
	wantOut(t, r, []api.Message{{Kind: api.Acts, Acts: []api.Act{
		act(api.Erase, 0, 0, 0, 8, 7), act(api.Erase, 2, 0, 0, 9, 8), act(api.Erase, 3, 0, 0, 10, 9),
	}}}, 1)
	done := r.Parts().Done
	if len(done) != 3 || len(done[1]) != 1 || done[1][0] != change(api.Erase, id(0, 0, 2)) || len(done[2]) != 3 ||
		done[2][0] != change(api.Erase, id(0, 0, 1)) || done[2][1] != change(api.Erase, id(0, 0, 3)) || done[2][2] != change(api.Erase, id(0, 0, 4)) {
		t.Errorf("what can be undone is %v", done)
	}
	ok(t, r.Erase(1, 1))
	wantView(t, r, "e")
	wantCursor(t, r, 1)
	ok(t, r.Erase(0, 1))
	wantView(t, r, "")
	wantCursor(t, r, 0)
	if r.Len() != 6 {
		t.Errorf("there are %d elements", r.Len())
	}
}

// P16.3: the first that applies.
func TestEraseRefused(t *testing.T) {
	a, b := pair(t, two)
	ok(t, a.Insert(0, "abc"), a.Erase(1, 1))
	carry(t, a, b)
	out := [][2]int{
		{-1, 0}, {least, 0}, {3, 0}, {most, 0}, {3, -1}, {most, most}, {-1, 1}, {least, most},
		{0, -1}, {0, least}, {0, 3}, {0, most}, {1, 2}, {1, most}, {2, 1}, {2, most}, {2, -1},
	}
	wantNothing(t, a, func() {
		for _, x := range out {
			wantRefusal(t, a.Erase(x[0], x[1]), api.ErrRange, here("Erase", max(x[0], -1)))
		}
	})
	freeze(t, a)
	wantNothing(t, a, func() {
		for _, x := range out {
			wantRefusal(t, a.Erase(x[0], x[1]), api.ErrRange, here("Erase", max(x[0], -1)))
		}
		for p := range 3 {
			for n := range 3 - p {
				wantRefusal(t, a.Erase(p, n), api.ErrFrozen, here("Erase", p))
			}
		}
	})
}

// P16.3, of others' acts that no honest one sends: an element with a Hides
// below 0 is erased once, and is seen nevertheless.
func TestEraseOfWhatWasRestoredTooOften(t *testing.T) {
	a, _ := pair(t, config(2, 40, 4, 4))
	ok(t, a.Insert(0, "abc"))
	restores := []api.Act{act(api.Restore, 1, 0, 1, 1, 3), act(api.Restore, 1, 0, 1, 2, 3, 1)}
	ok(t, a.Take(raw(t, api.Message{Kind: api.Acts, From: 1, Acts: restores})))
	ok(t, a.Erase(0, 3))
	wantView(t, a, "b")
	wantCursor(t, a, 0)
	for i, hides := range []int{1, -1, 1} {
		if e := a.Elements()[i]; e.Hides != hides {
			t.Errorf("%v, want Hides %d", e, hides)
		}
	}
	ok(t, a.Rewrite("xy")) // an edit that erases and inserts about it
	wantView(t, a, "xyb")
	ok(t, a.Undo(), a.Undo())
	wantView(t, a, "abc")
}

// P16.4
func TestUndoAndRedo(t *testing.T) {
	r := made(t, config(2, 40, 4, 4), 1)
	ok(t, r.Insert(0, "abc"), r.Erase(1, 2), r.Move(1))
	cursor := r.Parts().Cursor
	lose(r)
	ok(t, r.Undo())
	wantView(t, r, "abc")
	wantDepth(t, r, 1, 1)
	wantOut(t, r, []api.Message{{Kind: api.Acts, From: 1, Acts: []api.Act{
		act(api.Restore, 2, 0, 1, 6, 0, 5), act(api.Restore, 1, 0, 1, 7, 0, 6),
	}}}, 0)
	ok(t, r.Undo())
	wantView(t, r, "")
	wantDepth(t, r, 0, 2)
	wantOut(t, r, []api.Message{{Kind: api.Acts, From: 1, Acts: []api.Act{
		act(api.Erase, 2, 0, 1, 8, 0, 7), act(api.Erase, 1, 0, 1, 9, 0, 8), act(api.Erase, 0, 0, 1, 10, 0, 9),
	}}}, 0)
	ok(t, r.Redo())
	wantView(t, r, "abc")
	wantDepth(t, r, 1, 1)
	wantOut(t, r, []api.Message{{Kind: api.Acts, From: 1, Acts: []api.Act{
		act(api.Restore, 0, 0, 1, 11, 0, 10), act(api.Restore, 1, 0, 1, 12, 0, 11), act(api.Restore, 2, 0, 1, 13, 0, 12),
	}}}, 0)
	ok(t, r.Redo())
	wantView(t, r, "a")
	wantOut(t, r, []api.Message{{Kind: api.Acts, From: 1, Acts: []api.Act{
		act(api.Erase, 1, 0, 1, 14, 0, 13), act(api.Erase, 2, 0, 1, 15, 0, 14),
	}}}, 0)
	if r.Parts().Cursor != cursor || r.Credit() != 17 {
		t.Errorf("the cursor is %v, the credit %d", r.Parts().Cursor, r.Credit())
	}
	ok(t, r.Undo(), r.Insert(0, "x"))
	wantDepth(t, r, 2, 0) // nothing is to be done again
}

// P16.4: the first that applies.
func TestUndoAndRedoRefused(t *testing.T) {
	a, b := pair(t, two)
	none := func() {
		wantRefusal(t, a.Undo(), api.ErrNone, here("Undo", -1), link("undo", "Undo", -1))
		wantRefusal(t, a.Redo(), api.ErrNone, here("Redo", -1), link("undo", "Redo", -1))
	}
	wantNothing(t, a, none)
	freeze(t, a)
	wantNothing(t, a, none)
	carry(t, a, b)
	ok(t, a.Insert(0, "a"), a.Insert(0, "b"), a.Undo())
	carry(t, a, b)
	freeze(t, a)
	wantNothing(t, a, func() {
		wantRefusal(t, a.Undo(), api.ErrFrozen, here("Undo", -1))
		wantRefusal(t, a.Redo(), api.ErrFrozen, here("Redo", -1))
	})
}

// P16.4: MaxUndo edits can be undone, not one more.
func TestUndoOfMany(t *testing.T) {
	r := made(t, config(1, 100, 1, 0), 0)
	for range api.MaxUndo + 3 {
		ok(t, r.Insert(r.Live(), "x"))
	}
	wantDepth(t, r, api.MaxUndo, 0)
	for range api.MaxUndo {
		ok(t, r.Undo())
	}
	wantView(t, r, "xxx")
	wantRefusal(t, r.Undo(), api.ErrNone, here("Undo", -1), link("undo", "Undo", -1))
	for range api.MaxUndo {
		ok(t, r.Redo())
	}
	wantView(t, r, strings.Repeat("x", api.MaxUndo+3))
	wantRefusal(t, r.Redo(), api.ErrNone, here("Redo", -1), link("undo", "Redo", -1))
}

// P16.4
func TestRewrite(t *testing.T) {
	r := made(t, config(2, 40, 4, 4), 0)
	ok(t, r.Insert(0, "kitten"), r.Move(4))
	cursor := r.Parts().Cursor
	lose(r)
	ok(t, r.Rewrite("sitting"))
	wantView(t, r, "sitting")
	wantCredit(t, r, 11)
	wantDepth(t, r, 2, 0)
	if r.Parts().Cursor != cursor {
		t.Errorf("the cursor is %v, was %v", r.Parts().Cursor, cursor)
	}
	wantCursor(t, r, 4)
	wantOut(t, r, []api.Message{{Kind: api.Acts, Acts: []api.Act{
		act(api.Erase, 0, 0, 0, 7, 6), act(api.Insert, 0, 's', 0, 8, 7),
		act(api.Erase, 5, 0, 0, 9, 8), act(api.Insert, 5, 'i', 0, 10, 9),
		act(api.Insert, 8, 'g', 0, 11, 10),
	}}}, 1)
	edit := r.Parts().Done[1]
	for i, want := range []api.Change{
		change(api.Erase, id(0, 0, 1)), change(api.Insert, id(0, 0, 8)),
		change(api.Erase, id(0, 0, 5)), change(api.Insert, id(0, 0, 10)), change(api.Insert, id(0, 0, 11)),
	} {
		if len(edit) != 5 || edit[i] != want {
			t.Fatalf("the edit is %v", edit)
		}
	}
	ok(t, r.Undo())
	wantView(t, r, "kitten")
	ok(t, r.Redo(), r.Rewrite(""))
	wantView(t, r, "")
	ok(t, r.Rewrite("é世"))
	wantView(t, r, "é世")
	wantCredit(t, r, 9)
}

// P16.4: the first that applies.
func TestRewriteRefused(t *testing.T) {
	a, b := pair(t, config(2, 20, 4, 4))
	ok(t, a.Insert(0, "abcd"))
	carry(t, a, b)
	long := strings.Repeat("x", 1<<20+1)
	wantNothing(t, a, func() {
		wantRefusal(t, a.Rewrite(noText), api.ErrText, here("Rewrite", -1))
		wantRefusal(t, a.Rewrite(long+"\xff"), api.ErrText, here("Rewrite", -1))
		wantRefusal(t, a.Rewrite(long), api.ErrRoom, here("Rewrite", -1), link("diff", "Edits", -1))
		wantRefusal(t, a.Rewrite(long[:1<<20]), api.ErrFull, here("Rewrite", -1))
		wantRefusal(t, a.Rewrite("abcd1234567"), api.ErrFull, here("Rewrite", -1))
		wantRefusal(t, a.Rewrite("1234567"), api.ErrFull, here("Rewrite", -1))
	})
	freeze(t, a)
	wantNothing(t, a, func() {
		wantRefusal(t, a.Rewrite(noText), api.ErrText, here("Rewrite", -1))
		wantRefusal(t, a.Rewrite(long), api.ErrRoom, here("Rewrite", -1), link("diff", "Edits", -1))
		wantRefusal(t, a.Rewrite("abcd1234567"), api.ErrFrozen, here("Rewrite", -1))
		wantRefusal(t, a.Rewrite("x"), api.ErrFrozen, here("Rewrite", -1))
		wantRefusal(t, a.Rewrite("abcd"), api.ErrFrozen, here("Rewrite", -1))
	})
	c := made(t, config(2, 20, 4, 4), 0)
	ok(t, c.Insert(0, "abcd"))
	ok(t, c.Rewrite("123é56")) // just the credit: six come, four go
	wantCredit(t, c, 0)
	wantView(t, c, "123é56")
	ok(t, c.Rewrite("1é6"))
	wantView(t, c, "1é6")
}

// forged is a replica whose base has IDs of acts that are still to come: only
// somebody who makes up its parts can bring that about.
func forged(t testing.TB, epoch int, numbers ...int) *replica.Replica {
	t.Helper()
	p := api.Parts{Config: config(2, 40, 4, 4), Epoch: epoch, Cursor: api.Anchor{Front: true}}
	for _, n := range numbers {
		p.Base = append(p.Base, api.Element{ID: id(epoch, 0, n), Char: 'z'})
	}
	return from(t, p)
}

// R3: an edit that is refused in its midst by a layer below has changed
// nothing.
func TestEditRefusedInItsMidst(t *testing.T) {
	r := forged(t, 3, 5, 8)
	ok(t, r.Insert(1, "ab"), r.Erase(0, 1), r.Move(1)) // acts 1 to 3
	ok(t, r.Take(raw(t, actsMessage(1, 3, act(api.Insert, 1, 'k', 1, 1)))))
	wantView(t, r, "abkz")
	wantNothing(t, r, func() {
		err := r.Insert(2, "xyz")
		wantRefusal(t, err, api.ErrTwice, here("Insert", 2), link("history", "Issue", 4), link("xform", "Apply", 4), link("model", "Insert", 4))
		err = r.Rewrite("a12bkz")
		wantRefusal(t, err, api.ErrTwice, here("Rewrite", -1), link("history", "Issue", 3), link("xform", "Apply", 3), link("model", "Insert", 3))
	})
	ok(t, r.Insert(0, "c"), r.Erase(0, 1), r.Undo(), r.Undo()) // acts 4 to 7
	wantNothing(t, r, func() {
		err := r.Insert(0, "x")
		wantRefusal(t, err, api.ErrTwice, here("Insert", 0), link("history", "Issue", 0), link("xform", "Apply", 0), link("model", "Insert", 0))
	})
	ok(t, r.Redo(), r.Insert(0, "go on"))
	wantView(t, r, "go oncabkz")
}

// The same behind the last epoch in which a replica can be made.
func TestEditRefusedBehindTheLastEpoch(t *testing.T) {
	p := api.Parts{Config: config(1, 40, 1, 0), Epoch: 1 << 40, Cursor: api.Anchor{Front: true}}
	p.Base = []api.Element{{ID: id(1<<40+2, 0, 3), Char: 'z'}}
	r := from(t, p)
	ok(t, r.Propose(), r.Propose(), r.Insert(0, "a"))
	if r.Epoch() != 1<<40+2 {
		t.Fatalf("the epoch is %d", r.Epoch())
	}
	wantNothing(t, r, func() {
		err := r.Insert(1, "bc")
		wantRefusal(t, err, api.ErrTwice, here("Insert", 1), link("history", "Issue", 2), link("xform", "Apply", 2), link("model", "Insert", 2))
	})
	ok(t, r.Insert(1, "b"))
	wantView(t, r, "abz")
}

// The greatest Model: all of it is inserted, erased, and comes back.
func TestGreatestModel(t *testing.T) {
	r := made(t, config(1, api.MaxModel, 1, 0), 0)
	text := strings.Repeat("é", api.MaxModel)
	wantRefusal(t, r.Insert(0, text+"x"), api.ErrFull, here("Insert", 0))
	ok(t, r.Insert(0, text))
	wantRefusal(t, r.Insert(0, "x"), api.ErrFull, here("Insert", 0))
	wantRefusal(t, r.Rewrite(text+"x"), api.ErrRoom, here("Rewrite", -1), link("diff", "Edits", -1))
	ok(t, r.Erase(0, api.MaxModel), r.Undo())
	wantView(t, r, text)
	ok(t, r.Redo(), r.Propose())
	wantView(t, r, "")
	wantCredit(t, r, api.MaxModel)
}
