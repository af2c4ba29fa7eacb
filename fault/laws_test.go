package fault_test

import (
	"errors"
	"slices"
	"strconv"
	"strings"
	"testing"

	"barrow/api"
	"barrow/fault"
)

// made is an error beside what the chapter says of it, worked out while it is put together.
type made struct {
	err   error
	text  string
	codes []int
	first []api.Link // none or one
	chain []api.Link
}

func reasonMade(reason error) made {
	m := made{err: reason, text: reason.Error()}
	if i := slices.Index(reasons, reason); i >= 0 {
		m.codes = []int{i + 1}
	}
	return m
}

func wrapMade(layer, call string, at int, inner made) made {
	l := link(layer, call, max(at, -1))
	place := layer + "." + call
	if at >= 0 {
		place += " at " + strconv.Itoa(at)
	}
	return made{
		err:   fault.New(layer, call, at, inner.err),
		text:  place + ": " + inner.text,
		codes: inner.codes,
		first: []api.Link{l},
		chain: append([]api.Link{l}, inner.chain...),
	}
}

func joinMade(parts ...made) made {
	var errs []error
	var texts []string
	out := made{chain: parts[0].chain}
	for _, p := range parts {
		errs = append(errs, p.err)
		texts = append(texts, p.text)
		out.codes = append(out.codes, p.codes...)
		if len(out.first) == 0 {
			out.first = p.first
		}
	}
	out.err, out.text = fault.Join(errs...), strings.Join(texts, "; ")
	return out
}

// pool is many errors of many shapes, up to some depth.
func pool() []made {
	all := []made{reasonMade(api.ErrOther)}
	for _, reason := range reasons {
		all = append(all, reasonMade(reason))
	}
	for round := range 3 {
		grown := slices.Clone(all)
		for i, m := range all {
			other := all[(i*7+round)%len(all)]
			grown = append(grown, wrapMade("layer"+strconv.Itoa(round), "Call", i%5-2, m))
			grown = append(grown, joinMade(m, other), joinMade(other, m, m))
		}
		all = grown
	}
	return all
}

func checkMade(t *testing.T, m made) {
	t.Helper()
	wantText(t, m.err, m.text)
	wantCodes(t, m.err, m.codes...)
	wantChain(t, m.err, m.chain...)
	if len(m.first) > 0 {
		wantFirst(t, m.err, m.first[0])
	} else {
		wantNoFirst(t, m.err)
	}
	if len(m.codes) > 0 {
		wantCode(t, m.err, m.codes[0])
	} else {
		wantCode(t, m.err, api.CodeOther)
	}
	for i, reason := range reasons {
		wantHas(t, m.err, i+1, slices.Contains(m.codes, i+1))
		wantHas(t, m.err, i+1, errors.Is(m.err, reason))
	}
	var f *fault.Fault
	found := errors.As(m.err, &f)
	if l, ok := fault.First(m.err); ok != found || found && l != link(f.Layer, f.Call, f.At) {
		t.Errorf("First of %v is not what errors.As finds", m.err)
	}
}

func TestManyShapes(t *testing.T) {
	for _, m := range pool() {
		checkMade(t, m)
		if t.Failed() {
			t.Fatalf("of %q", m.text)
		}
	}
}

// P1.6

func TestWrappingKeeps(t *testing.T) {
	for i, m := range pool() {
		for _, at := range []int{-4, -1, 0, i} {
			over := fault.New("top", "Call", at, m.err)
			wantCode(t, over, fault.Code(m.err))
			wantCodes(t, over, fault.Codes(m.err)...)
			for code := -1; code <= 100; code++ {
				wantHas(t, over, code, fault.Has(m.err, code))
			}
			wantChain(t, over, append([]api.Link{link("top", "Call", max(at, -1))}, fault.Chain(m.err)...)...)
		}
		if t.Failed() {
			t.Fatalf("of %q", m.text)
		}
	}
}

func TestJoiningKeepsCodes(t *testing.T) {
	all := pool()
	for i, a := range all {
		for _, b := range []made{a, all[0], all[1], all[len(all)-1-i]} {
			wantCodes(t, fault.Join(a.err, b.err), append(fault.Codes(a.err), fault.Codes(b.err)...)...)
		}
		wantCodes(t, fault.Join(a.err, nil), fault.Codes(a.err)...)
		wantCodes(t, fault.Join(nil, a.err), fault.Codes(a.err)...)
	}
}

// The bound of DOC.md: 2^16 parts nested in one another.
const deepest = 1 << 16

func TestDeepFaults(t *testing.T) {
	err := fault.Join(api.ErrOther, api.ErrBusy)
	for i := range deepest {
		err = fault.New("a", "B", i%2-1, err)
	}
	wantCode(t, err, api.CodeBusy)
	wantCodes(t, err, api.CodeBusy)
	wantHas(t, err, api.CodeBusy, true)
	wantHas(t, err, api.CodeArg, false)
	wantFirst(t, err, link("a", "B", 0))
	if got := len(fault.Chain(err)); got != deepest {
		t.Errorf("the chain has %d links", got)
	}
	wantText(t, err, strings.Repeat("a.B at 0: a.B: ", deepest/2)+"something else; busy")
}

func TestDeepJoins(t *testing.T) {
	err := fault.New("a", "B", 0, api.ErrBusy)
	for range deepest {
		err = fault.Join(err, api.ErrOther)
	}
	wantCode(t, err, api.CodeBusy)
	wantCodes(t, err, api.CodeBusy)
	wantFirst(t, err, link("a", "B", 0))
	wantChain(t, err, link("a", "B", 0))
	wantText(t, err, "a.B at 0: busy"+strings.Repeat("; something else", deepest))
}

// Calls end (R1), too, if there are more ways through an error than can be gone.
func TestJoinedWithItself(t *testing.T) {
	blank := fault.Join(api.ErrOther, api.ErrOther)
	last := fault.Join(api.ErrOther, fault.New("a", "B", 3, api.ErrRoom))
	for range 100 {
		blank, last = fault.Join(blank, blank), fault.New("c", "D", 0, fault.Join(last, blank))
	}
	wantCode(t, blank, api.CodeOther)
	wantCodes(t, blank)
	wantHas(t, blank, api.CodeRoom, false)
	wantNoFirst(t, blank)
	wantChain(t, blank)
	wantCodes(t, fault.Join(blank, last), api.CodeRoom)
	wantFirst(t, fault.Join(blank, last), link("c", "D", 0))
	for range 100 {
		last = fault.Join(blank, last, last)
	}
	wantCode(t, last, api.CodeRoom)
	wantHas(t, last, api.CodeRoom, true)
	wantHas(t, last, api.CodeArg, false)
	wantChain(t, last)

	often := fault.Join(api.ErrArg, api.ErrRoom)
	for range 16 {
		often = fault.Join(often, often)
	}
	if got := fault.Codes(often); len(got) != 1<<17 || !slices.Equal(got[1<<17-4:], []int{1, 13, 1, 13}) {
		t.Errorf("%d codes", len(got))
	}
}
