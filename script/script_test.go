package script_test

import (
	"bytes"
	"math"
	"slices"
	"strings"
	"testing"

	"barrow/api"
	"barrow/script"
)

const (
	most  = math.MaxInt
	least = math.MinInt
)

func row(l ...api.Step) []api.Step { return l }

func raw(l ...byte) []byte { return l }

// step is one without a Text.
func step(kind, a, b, c int) api.Step { return api.Step{Kind: kind, A: a, B: b, C: c} }

func insert(text string) api.Step { return api.Step{Kind: api.StepInsert, Text: text} }

func rewrite(text string) api.Step { return api.Step{Kind: api.StepRewrite, Text: text} }

func wantRead(t testing.TB, from []byte, want ...api.Step) {
	t.Helper()
	if got := script.Read(from); !slices.Equal(got, want) {
		t.Errorf("Read of %v is %+v, not %+v", from, got, want)
	}
}

func wantWrite(t testing.TB, l []api.Step, want ...byte) {
	t.Helper()
	if got := script.Write(l); !bytes.Equal(got, want) {
		t.Errorf("Write of %+v is %v, not %v", l, got, want)
	}
}

// wantPlain: what is plain is written and has a text, what is not has neither.
func wantPlain(t testing.TB, s api.Step, want bool) {
	t.Helper()
	if got := script.Plain(s); got != want {
		t.Errorf("Plain of %+v is %v", s, got)
	}
	if got := script.Write(row(s)); len(got) > 0 != want {
		t.Errorf("Write of %+v is %v", s, got)
	}
	if got := script.Text(s); got != "" != want {
		t.Errorf("Text of %+v is %q", s, got)
	}
}

func wantText(t testing.TB, s api.Step, want string) {
	t.Helper()
	if got := script.Text(s); got != want {
		t.Errorf("Text of %+v is %q, not %q", s, got, want)
	}
}

func wantName(t testing.TB, kind int, want string) {
	t.Helper()
	if got := script.Name(kind); got != want {
		t.Errorf("Name(%d) is %q, not %q", kind, got, want)
	}
}

func wantFold(t testing.TB, n, most, want int) {
	t.Helper()
	if got := script.Fold(n, most); got != want {
		t.Errorf("Fold(%d, %d) is %d, not %d", n, most, got, want)
	}
}

// P18.1

func TestReadOfEachKindsByte(t *testing.T) {
	for b := range 256 {
		kind := b % 14
		wantRead(t, raw(byte(b)), step(kind, 0, 0, 0))
		wantRead(t, raw(byte(b), 1, 2, 3), step(kind, 1, 2, 3))
	}
}

// Where the bytes end in the midst of a step, the rest of it is 0.
func TestReadOfWhatIsCutShort(t *testing.T) {
	all := raw(4, 255, 128, 7, 3, 208, 1, 240)
	want := api.Step{Kind: api.StepRewrite}
	for n := 1; n <= len(all); n++ {
		switch n {
		case 2:
			want.A = 255
		case 3:
			want.B = 128
		case 4:
			want.C = 7
		case 6:
			want.Text = "\n"
		case 7:
			want.Text = "\nb"
		case 8:
			want.Text = "\nb世"
		}
		wantRead(t, all[:n], want)
		wantRead(t, slices.Concat(raw(13, 9, 9, 9), all[:n]), step(api.StepReload, 9, 9, 9), want)
	}
}

func TestReadOfEachLengthByte(t *testing.T) {
	for b := range 256 {
		text := strings.Repeat("c", b%16)
		from := slices.Concat(raw(0, 0, 0, 0, byte(b)), bytes.Repeat(raw(2), b%16))
		wantRead(t, from, insert(text))
		wantRead(t, append(from, 2), insert(text), step(api.StepUndo, 0, 0, 0))
		if b%16 > 0 {
			wantRead(t, from[:len(from)-1], insert(text[1:]))
		}
	}
}

// Steps of the other kinds have no length byte.
func TestReadOfKindsWithoutText(t *testing.T) {
	for kind := range api.Steps {
		if kind == api.StepInsert || kind == api.StepRewrite {
			continue
		}
		wantRead(t, raw(byte(kind), 1, 2, 3, 1, 4, 5, 6), step(kind, 1, 2, 3), step(api.StepErase, 4, 5, 6))
	}
}

func TestReadOfEachCharactersByte(t *testing.T) {
	for b := range 256 {
		want := string("abcdefghijklmnopqrstuvwxyz"[b%26])
		switch {
		case b >= 240:
			want = "\u4e16"
		case b >= 224:
			want = "\u00e9"
		case b >= 208:
			want = "\n"
		}
		wantRead(t, raw(0, 0, 0, 0, 1, byte(b)), insert(want))
		wantRead(t, raw(4, 0, 0, 0, 3, 0, byte(b), 25, 12), rewrite("a"+want+"z"), step(api.StepFair, 0, 0, 0))
	}
}

func TestReadOfLongRows(t *testing.T) {
	const many = 1 << 18
	l := script.Read(make([]byte, 5*many))
	if len(l) != many || slices.ContainsFunc(l, func(s api.Step) bool { return s != api.Step{} }) {
		t.Errorf("%d steps are told", len(l))
	}
	l = script.Read(bytes.Repeat(raw(255), 4*many+1))
	if len(l) != many+1 || l[0] != step(3, 255, 255, 255) || l[many] != step(3, 0, 0, 0) {
		t.Errorf("%d steps are told, the last one %+v", len(l), l[len(l)-1])
	}
}

func TestPlainAtTheEdges(t *testing.T) {
	for kind := range api.Steps {
		wantPlain(t, step(kind, 0, 0, 0), true)
		wantPlain(t, step(kind, 255, 255, 255), true)
	}
	for _, n := range []int{14, 15, 28, 256, -1, -14, most, least} {
		wantPlain(t, step(n, 0, 0, 0), false)
	}
	for _, n := range []int{256, 257, 512, 1 << 32, most, -1, -256, least} {
		for _, kind := range []int{api.StepInsert, api.StepErase, api.StepRewrite, api.StepReload} {
			wantPlain(t, step(kind, n, 0, 0), false)
			wantPlain(t, step(kind, 0, n, 0), false)
			wantPlain(t, step(kind, 0, 0, n), false)
		}
	}
}

func TestPlainTexts(t *testing.T) {
	for _, text := range []string{"", "a", "z", "\n", "\u00e9", "\u4e16", "abcdefghijklmno", strings.Repeat("\u4e16", 15), "za\n\u00e9\u4e16"} {
		for kind := range api.Steps {
			holds := kind == api.StepInsert || kind == api.StepRewrite
			wantPlain(t, api.Step{Kind: kind, Text: text}, holds || text == "")
		}
	}
	for _, text := range []string{
		"abcdefghijklmnop", strings.Repeat("\n", 16), strings.Repeat("\u00e9", 17), strings.Repeat("\u4e16", 256), strings.Repeat("a", 256+15), // too long
		"A", "`", "{", " ", "\r", "\t", "\x00", "0", "\u00e8", "\u00ea", "\u4e15", "\u4e17", "e\u0301", "\U0010ffff", // other characters
		"\xff", "\xe9", "\xc3", "\xe4\xb8", "\xc1\xa1", "\xed\xa0\x80", "\ufffd", "a\xffb", // no UTF-8, and what stands for it
		"abA", "Aab", "aAb", "abcdefghijklmn\xff",
	} {
		wantPlain(t, insert(text), false)
		wantPlain(t, rewrite(text), false)
		wantPlain(t, api.Step{Kind: api.StepUndo, Text: text}, false)
	}
}

// Of all characters just 29 may stand in a Text.
func TestPlainOfEachCharacter(t *testing.T) {
	var plain []rune
	for c := range rune(api.MaxChar + 1) {
		if script.Plain(insert(string(c))) {
			plain = append(plain, c)
		}
	}
	if want := "\nabcdefghijklmnopqrstuvwxyz\u00e9\u4e16"; string(plain) != want {
		t.Errorf("%q are plain, not %q", plain, want)
	}
}

func TestWriteOfEachKind(t *testing.T) {
	for kind := range api.Steps {
		want := raw(byte(kind), 0, 127, 255)
		if kind == api.StepInsert || kind == api.StepRewrite {
			want = append(want, 0)
		}
		wantWrite(t, row(step(kind, 0, 127, 255)), want...)
	}
}

func TestWriteOfTexts(t *testing.T) {
	wantWrite(t, row(insert("\n\u00e9\u4e16")), 0, 0, 0, 0, 3, 208, 224, 240)
	wantWrite(t, row(rewrite("abcdefghijklmno")), 4, 0, 0, 0, 15, 0, 1, 2, 3, 4, 5, 6, 7, 8, 9, 10, 11, 12, 13, 14)
	wantWrite(t, row(insert("pqrstuvwxyz")), 0, 0, 0, 0, 11, 15, 16, 17, 18, 19, 20, 21, 22, 23, 24, 25)
	wantWrite(t, row(rewrite(strings.Repeat("\u4e16", 15))), slices.Concat(raw(4, 0, 0, 0, 15), bytes.Repeat(raw(240), 15))...)
}

func TestWriteLeavesOut(t *testing.T) {
	wantWrite(t, nil)
	wantWrite(t, row())
	wantWrite(t, row(step(14, 0, 0, 0), step(-1, 0, 0, 0), insert("A"), step(api.StepFair, 256, 0, 0)))
	wantWrite(t, row(
		insert("A"), step(api.StepFair, 1, 2, 3), step(api.StepFair, 1, -2, 3), insert("x"),
		api.Step{Kind: api.StepCursor, Text: "x"}, step(api.StepCursor, 9, 8, 7), insert("\xff"),
	), 12, 1, 2, 3, 0, 0, 0, 0, 1, 23, 5, 9, 8, 7)
}

// P18.2

func TestNames(t *testing.T) {
	for kind, want := range map[int]string{
		api.StepInsert: "insert", api.StepErase: "erase", api.StepUndo: "undo", api.StepRedo: "redo",
		api.StepRewrite: "rewrite", api.StepCursor: "cursor", api.StepPropose: "propose", api.StepSync: "sync",
		api.StepDeliver: "deliver", api.StepDrop: "drop", api.StepDouble: "double", api.StepSwap: "swap",
		api.StepFair: "fair", api.StepReload: "reload",
	} {
		wantName(t, kind, want)
	}
	for _, kind := range []int{-1, -14, 14, 15, 256, most, least} {
		wantName(t, kind, "")
	}
}

func TestTexts(t *testing.T) {
	for kind := range api.Steps {
		want := script.Name(kind) + " 0 10 255"
		if kind == api.StepInsert || kind == api.StepRewrite {
			want += " 0"
		}
		wantText(t, step(kind, 0, 10, 255), want)
	}
	// Characters are counted, not bytes.
	wantText(t, rewrite("\u00e9\u4e16\n"), "rewrite 0 0 0 3")
	wantText(t, insert(strings.Repeat("\u4e16", 15)), "insert 0 0 0 15")
	wantText(t, insert(strings.Repeat("a", 16)), "")
	wantText(t, step(api.StepSync, 0, 0, 256), "")
	wantText(t, step(14, 0, 0, 0), "")
}

// P18.3

func TestFold(t *testing.T) {
	for most := 1; most <= 9; most++ {
		want := 0
		for n := -9 * most; n <= 9*most; n++ {
			wantFold(t, n, most, want)
			want++
			if want == most {
				want = 0
			}
		}
	}
	for _, n := range []int{0, 1, -1, 5, most, least} {
		for _, m := range []int{0, -1, -5, least} {
			wantFold(t, n, m, 0)
		}
		wantFold(t, n, 1, 0)
	}
}

func TestFoldOfGreatNumbers(t *testing.T) {
	wantFold(t, most, most, 0)
	wantFold(t, most-1, most, most-1)
	wantFold(t, -1, most, most-1)
	wantFold(t, least, most, most-1)
	wantFold(t, least, 2, 0)
	wantFold(t, least, 3, 1)
	wantFold(t, least, 1<<62, 0)
	wantFold(t, least+1, 1<<62, 1)
	wantFold(t, -most, most, 0)
	wantFold(t, most, 10, 7)
	numbers := []int{0, 1, 2, 3, 7, 255, 256, 1 << 31, 1 << 32, 1 << 62}
	for _, n := range slices.Clone(numbers) {
		numbers = append(numbers, -n, n-1, 1-n, most-n, least+n)
	}
	for _, n := range numbers {
		for _, m := range numbers {
			wantFold(t, n, m, plainFold(n, m))
		}
	}
}
