package diff_test

import (
	"runtime"
	"slices"
	"strings"
	"testing"
	"unsafe"

	"barrow/api"
	"barrow/diff"
)

// scrawl writes over edits, their spare room too.
func scrawl(l []api.Edit) {
	l = l[:cap(l)]
	for i := range l {
		l[i] = ed(-7, -7, "scrawl")
	}
}

// roomy is a row with spare room, in which there stands something.
func roomy(l ...api.Edit) []api.Edit {
	out := append(make([]api.Edit, 0, len(l)+4), l...)
	for i := len(l); i < cap(out); i++ {
		out[:cap(out)][i] = ed(i, i, "spare")
	}
	return out
}

// shares says whether two texts lie in the same memory.
func shares(a, b string) bool {
	if a == "" || b == "" {
		return false
	}
	from, other := uintptr(unsafe.Pointer(unsafe.StringData(a))), uintptr(unsafe.Pointer(unsafe.StringData(b)))
	return from < other+uintptr(len(b)) && other < from+uintptr(len(a))
}

// R2: what is handed in is neither changed nor kept.

func TestEditsThatAreHandedInStay(t *testing.T) {
	for _, l := range [][]api.Edit{
		roomy(ed(1, 1, "xy"), ed(0, 0, "z"), ed(4, 0, "é")),
		roomy(ed(1, 1, "xy"), ed(9, 0, "")),
		roomy(),
	} {
		before := slices.Clone(l[:cap(l)])
		diff.Apply("abc", l)
		back, _ := diff.Invert("abc", l)
		scrawl(back)
		if !slices.Equal(l[:cap(l)], before) {
			t.Errorf("%v has become %v", before, l[:cap(l)])
		}
	}
	// A piece of a row: the rest of it stays.
	all := row(ed(0, 1, ""), ed(0, 1, "x"), ed(0, 1, "y"))
	back, err := diff.Invert("ab", all[:1])
	if err != nil || !slices.Equal(back, row(ed(0, 0, "a"))) {
		t.Errorf("Invert is %v, %v", back, err)
	}
	scrawl(back)
	if !slices.Equal(all, row(ed(0, 1, ""), ed(0, 1, "x"), ed(0, 1, "y"))) {
		t.Errorf("the row has become %v", all)
	}
}

// R2: what is answered is new memory.

func TestAnswersAreTheCallersOwn(t *testing.T) {
	l := row(ed(1, 1, "xy"), ed(0, 0, "z"))
	for range 3 {
		found, err := diff.Edits("kitten", "sitting")
		if err != nil || !slices.Equal(found, row(ed(0, 1, "s"), ed(4, 1, "i"), ed(6, 0, "g"))) {
			t.Errorf("Edits are %v, %v", found, err)
		}
		other, _ := diff.Edits("kitten", "sitting")
		scrawl(found)
		if !slices.Equal(other, row(ed(0, 1, "s"), ed(4, 1, "i"), ed(6, 0, "g"))) {
			t.Errorf("the other answer has become %v", other)
		}
		back, err := diff.Invert("abc", l)
		if err != nil || !slices.Equal(back, row(ed(0, 1, ""), ed(1, 2, "b"))) {
			t.Errorf("Invert is %v, %v", back, err)
		}
		scrawl(back)
	}
	if !slices.Equal(l, row(ed(1, 1, "xy"), ed(0, 0, "z"))) {
		t.Errorf("the edits have become %v", l)
	}
}

// A text that is answered is no piece of one that was handed in.
func TestTextsShareNothing(t *testing.T) {
	long := strings.Repeat("some text that is long; ", 8)
	other := strings.Repeat("other text; ", 8)
	for name, answer := range map[string]func() (string, error){
		"Common":                   func() (string, error) { return diff.Common(long, long) },
		"Apply":                    func() (string, error) { return diff.Apply(long, nil) },
		"Apply an empty edit":      func() (string, error) { return diff.Apply(long, row(ed(1, 0, ""))) },
		"Apply to nothing":         func() (string, error) { return diff.Apply("", row(ed(0, 0, long))) },
		"Edits of nothing":         func() (string, error) { return inserted(diff.Edits("", long)) },
		"Edits":                    func() (string, error) { return inserted(diff.Edits("#", long)) },
		"Invert":                   func() (string, error) { return inserted(diff.Invert(long, row(ed(0, 190, "")))) },
		"Invert of another insert": func() (string, error) { return inserted(diff.Invert(long, row(ed(0, 190, other)))) },
	} {
		s, err := answer()
		if err != nil || s == "" || shares(s, long) || shares(s, other) {
			t.Errorf("%s is %q, %v", name, s, err)
		}
	}
}

// inserted is what the first of some edits inserts.
func inserted(l []api.Edit, err error) (string, error) {
	if len(l) == 0 {
		return "", err
	}
	return l[0].Insert, err
}

// R4: an answer hangs on the arguments alone.
func TestAnswersAreTheSameAgain(t *testing.T) {
	first, _ := diff.Edits("abcbdab", "bdcaba")
	for _, other := range allTexts("abcd", 3) {
		diff.Edits(other, "bdcaba")
		diff.Edits("\xff", other)
		diff.Apply(other, row(ed(9, 9, "")))
		again, err := diff.Edits("abcbdab", "bdcaba")
		if err != nil || !slices.Equal(again, first) {
			t.Fatalf("Edits are %v, %v, not %v", again, err, first)
		}
	}
}

// heapBehind is how many bytes more are in use behind a call than ahead of it.
func heapBehind(call func()) int64 {
	var ahead, behind runtime.MemStats
	runtime.GC()
	runtime.ReadMemStats(&ahead)
	call()
	runtime.GC()
	runtime.ReadMemStats(&behind)
	return int64(behind.HeapAlloc) - int64(ahead.HeapAlloc)
}

// No table is kept when the call is over.
func TestNothingIsKept(t *testing.T) {
	a, b := strings.Repeat("ab", 1024), strings.Repeat("ba", 1024)
	more := heapBehind(func() {
		diff.Distance(a, b)
		diff.Edits(a, b)
		diff.Common(a, b)
		diff.Apply(a, row(ed(0, 0, b)))
		diff.Invert(a, row(ed(0, 9, b)))
	})
	if more > 1<<20 {
		t.Errorf("%d bytes more are in use", more)
	}
}

// allocated is how many bytes a call asks for.
func allocated(call func()) uint64 {
	var ahead, behind runtime.MemStats
	runtime.ReadMemStats(&ahead)
	call()
	runtime.ReadMemStats(&behind)
	return behind.TotalAlloc - ahead.TotalAlloc
}

// Texts that are refused cost nothing, those against an empty one no table.
func TestMemoryIsInBounds(t *testing.T) {
	long := strings.Repeat("é", 1<<22)
	refused := allocated(func() {
		diff.Distance(long, "xx")
		diff.Edits("xx", long)
		diff.Common(long, long)
	})
	if refused > 1<<20 {
		t.Errorf("the refused take %d bytes", refused)
	}
	empty := allocated(func() {
		diff.Distance(long, "")
		diff.Edits(long, "")
	})
	if empty > 1<<22*4*3 {
		t.Errorf("those against an empty text take %d bytes", empty)
	}
}
