package scan_test

import (
	"bytes"
	"slices"
	"testing"

	"barrow/api"
	"barrow/fault"
	"barrow/scan"
	"barrow/wire"
)

func pair(r *scan.Reader) [2]int { return [2]int{r.Byte(3, 5), r.Number(300)} }

func wantRefusal(t *testing.T, err error, code int, chain ...api.Link) {
	t.Helper()
	if fault.Code(err) != code || !slices.Equal(fault.Chain(err), chain) {
		t.Errorf("%v, want %d %v", err, code, chain)
	}
}

func here(at int) api.Link { return api.Link{Layer: "layer", Call: "Call", At: at} }

func there(call string, at int) api.Link { return api.Link{Layer: "wire", Call: call, At: at} }

func TestAll(t *testing.T) {
	got, err := scan.All("layer", "Call", []byte{4, 0xac, 2}, pair)
	if got != [2]int{4, 300} || err != nil {
		t.Errorf("%v, %v", got, err)
	}
	for _, x := range []struct {
		raw   []byte
		code  int
		chain []api.Link
	}{
		{nil, api.CodeShort, []api.Link{here(0), there("Byte", 0)}},
		{[]byte{2, 9}, api.CodeForm, []api.Link{here(0)}},
		{[]byte{6, 9}, api.CodeForm, []api.Link{here(0)}},
		{[]byte{5}, api.CodeShort, []api.Link{here(1), there("Number", 1)}},
		{[]byte{3, 0xad, 2}, api.CodeRange, []api.Link{here(1), there("Number", 1)}},
		{[]byte{4, 1, 0}, api.CodeForm, []api.Link{here(2), there("End", 2)}},
	} {
		got, err := scan.All("layer", "Call", x.raw, pair)
		wantRefusal(t, err, x.code, x.chain...)
		if got != [2]int{} {
			t.Errorf("% x: %v beside %v", x.raw, got, err)
		}
	}
}

func TestListAndText(t *testing.T) {
	texts := func(r *scan.Reader) []string {
		return scan.List(r, 1, (*scan.Reader).Text)
	}
	var w wire.Writer
	w.Number(2)
	w.Text("ab")
	w.Text("")
	raw := w.Bytes()
	got, err := scan.All("layer", "Call", raw, texts)
	if !slices.Equal(got, []string{"ab", ""}) || err != nil {
		t.Errorf("%q, %v", got, err)
	}
	got, err = scan.All("layer", "Call", raw[:4], texts)
	wantRefusal(t, err, api.CodeShort, here(4), there("Text", 4))
	if got != nil {
		t.Errorf("%q beside %v", got, err)
	}
	_, err = scan.All("layer", "Call", raw[:2], texts)
	wantRefusal(t, err, api.CodeShort, here(0), there("Count", 0))
	_, err = scan.All("layer", "Call", []byte{0xff, 0xff, 0xff, 0xff, 7}, (*scan.Reader).Text)
	wantRefusal(t, err, api.CodeShort, here(0), there("Text", 0))
	_, err = scan.All("layer", "Call", []byte{0x80, 0x80, 0x80, 0x80, 8}, (*scan.Reader).Text)
	wantRefusal(t, err, api.CodeRange, here(0), there("Text", 0))
	if !bytes.Equal(raw, w.Bytes()) {
		t.Error("the bytes have changed")
	}
}

// Acts, clocks and rounds are tested at length where messages are.
func TestThings(t *testing.T) {
	raw := []byte{1, 1, 7, 2, 0x61, 9, 2, 0, 8, 1, 4, 1, 3, 1, 2, 2, 0x61}
	type things struct {
		acts   []api.Act
		rounds api.Rounds
		char   rune
	}
	got, err := scan.All("layer", "Call", raw, func(r *scan.Reader) things {
		return things{r.Acts(), r.Rounds(), r.Char()}
	})
	want := api.Act{Op: api.Op{Kind: api.Insert, At: 2, Char: 'a', Replica: 7}, Number: 9, Clock: api.Clock{0, 8}}
	round := api.Round{Number: 4, Cut: api.Clock{3}, Votes: [api.MaxReplicas]int{2}, Decision: 2}
	if err != nil || !slices.Equal(got.acts, []api.Act{want}) || got.rounds != (api.Rounds{round}) || got.char != 'a' {
		t.Errorf("%+v, %v", got, err)
	}
	for _, x := range []struct {
		at  int
		bad byte
	}{{1, 4}, {5, 0}, {8, 0}, {10, 0}, {12, 0}, {14, 0}} {
		wrong := bytes.Clone(raw)
		wrong[x.at] = x.bad
		_, err := scan.All("layer", "Call", wrong, func(r *scan.Reader) things {
			return things{r.Acts(), r.Rounds(), r.Char()}
		})
		wantRefusal(t, err, api.CodeForm, here(x.at))
	}
}
