package script_test

import (
	"slices"
	"testing"

	"barrow/api"
	"barrow/script"
)

// Each row of the chapter's table.

func TestRunsOfRead(t *testing.T) {
	wantRead(t, nil)
	wantRead(t, raw())
	wantRead(t, raw(0), api.Step{})
	wantRead(t, raw(14), api.Step{})

	wantRead(t, raw(0, 1, 2, 3, 2, 0, 27), api.Step{A: 1, B: 2, C: 3, Text: "ab"})
	wantRead(t, raw(4, 0, 0, 0, 19, 208, 230, 255, 9), rewrite("\n\u00e9\u4e16"), step(api.StepDrop, 0, 0, 0))
	wantRead(t, raw(4, 9, 9, 9, 18, 5, 5), api.Step{Kind: api.StepRewrite, A: 9, B: 9, C: 9, Text: "ff"})
	wantRead(t, raw(2, 7), step(api.StepUndo, 7, 0, 0))
}

func TestRunOfWrite(t *testing.T) {
	l := slices.Concat(script.Read(raw(4, 9, 9, 9, 18, 5, 5)), script.Read(raw(2, 7)))
	wantWrite(t, l, 4, 9, 9, 9, 2, 5, 5, 2, 7, 0, 0)
}

func TestRunsOfPlain(t *testing.T) {
	wantPlain(t, api.Step{Kind: 14}, false)
	wantPlain(t, api.Step{A: 256}, false)
	wantPlain(t, api.Step{A: -1}, false)
	wantPlain(t, api.Step{Kind: api.StepUndo, Text: "a"}, false)
	wantPlain(t, insert("A"), false)
}

func TestRunOfText(t *testing.T) {
	for _, s := range script.Read(raw(0, 1, 2, 3, 2, 0, 27)) {
		wantText(t, s, "insert 1 2 3 2")
	}
}

func TestRunsOfFold(t *testing.T) {
	wantFold(t, 7, 3, 1)
	wantFold(t, -1, 3, 2)
	wantFold(t, 5, 0, 0)
}

// The chapter's examples.

func TestExample1(t *testing.T) {
	wantRead(t, raw(0, 1, 2, 3, 16, 2), api.Step{A: 1, B: 2, C: 3}, step(api.StepUndo, 0, 0, 0))
}

func TestExample2(t *testing.T) {
	for _, l := range [][]byte{raw(0), raw(14, 0), raw(28, 0, 0, 0, 240), raw(0, 0, 0, 0, 15)} {
		wantRead(t, l, insert(""))
	}
	wantRead(t, raw(4, 1, 2, 3, 3, 1, 210, 250), api.Step{Kind: api.StepRewrite, A: 1, B: 2, C: 3, Text: "b\n\u4e16"})
	wantRead(t, raw(18, 1, 2, 3, 35, 27, 208, 240), api.Step{Kind: api.StepRewrite, A: 1, B: 2, C: 3, Text: "b\n\u4e16"})
}

func TestExample3(t *testing.T) { wantName(t, 14, "") }
