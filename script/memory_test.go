package script_test

import (
	"bytes"
	"slices"
	"testing"

	"barrow/api"
	"barrow/script"
)

// R2: what is handed in is neither changed nor kept, what is answered is the
// caller's own.

// scrawl writes over bytes, their spare room too.
func scrawl(l []byte) {
	l = l[:cap(l)]
	for i := range l {
		l[i] = 77
	}
}

// scrawlSteps writes over steps, their spare room too.
func scrawlSteps(l []api.Step) {
	l = l[:cap(l)]
	for i := range l {
		l[i] = api.Step{Kind: -7, A: -7, Text: "scrawl"}
	}
}

func TestReadKeepsItsBytes(t *testing.T) {
	l := append(make([]byte, 0, 32), 0, 1, 2, 3, 2, 0, 27, 4, 0, 0, 0, 9, 208)
	spare := l[:cap(l)]
	copy(spare[len(l):], "spare room")
	before := slices.Clone(spare)
	steps := script.Read(l)
	if !bytes.Equal(spare, before) {
		t.Errorf("the bytes have become %v", spare)
	}
	again := script.Read(l)
	scrawl(l)
	want := row(api.Step{A: 1, B: 2, C: 3, Text: "ab"}, rewrite("\n"))
	if !slices.Equal(steps, want) {
		t.Errorf("the steps have become %+v", steps)
	}
	scrawlSteps(steps)
	if !slices.Equal(again, want) {
		t.Errorf("the other answer has become %+v", again)
	}
}

// What stands behind a piece of a row is not read.
func TestReadOfAPiece(t *testing.T) {
	l := raw(0, 1, 2, 3, 3, 0, 1, 2)
	wantRead(t, l[:0])
	wantRead(t, l[:2], api.Step{A: 1})
	wantRead(t, l[:4], api.Step{A: 1, B: 2, C: 3})
	wantRead(t, l[:5], api.Step{A: 1, B: 2, C: 3})
	wantRead(t, l[:6], api.Step{A: 1, B: 2, C: 3, Text: "a"})
	wantRead(t, l[1:3], step(api.StepErase, 2, 0, 0))
}

func TestWriteKeepsItsSteps(t *testing.T) {
	l := append(make([]api.Step, 0, 8), rewrite("ab"), insert("A"), step(api.StepUndo, 7, 0, 0))
	spare := l[:cap(l)]
	spare[3] = insert("spare")
	before := slices.Clone(spare)
	got, again := script.Write(l), script.Write(l)
	if !slices.Equal(spare, before) {
		t.Errorf("the steps have become %+v", spare)
	}
	scrawlSteps(l)
	scrawl(got)
	if want := raw(4, 0, 0, 0, 2, 0, 1, 2, 7, 0, 0); !bytes.Equal(again, want) {
		t.Errorf("the other answer has become %v", again)
	}
}

// R4: the same is answered however often it is asked, whatever was asked between.
func TestAnswersHangOnArgumentsAlone(t *testing.T) {
	for range 3 {
		wantRead(t, raw(0, 0, 0, 0, 1, 230), insert("\u00e9"))
		wantWrite(t, row(insert("\u00e9")), 0, 0, 0, 0, 1, 224)
		wantText(t, insert("\u00e9"), "insert 0 0 0 1")
		wantPlain(t, insert("\u00e8"), false)
		wantName(t, api.StepSwap, "swap")
		wantFold(t, -7, 5, 3)
		scrawl(script.Write(row(rewrite("abc"))))
		scrawlSteps(script.Read(raw(4, 1, 1, 1, 2, 7, 7)))
	}
}
