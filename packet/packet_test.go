package packet_test

import (
	"bytes"
	"encoding/hex"
	"math"
	"reflect"
	"slices"
	"strings"
	"testing"

	"barrow/api"
	"barrow/fault"
	"barrow/packet"
)

const most = math.MaxInt

// raw makes bytes of their digits to the base 16.
func raw(t testing.TB, digits string) []byte {
	t.Helper()
	b, err := hex.DecodeString(strings.ReplaceAll(digits, " ", ""))
	if err != nil {
		t.Fatal(err)
	}
	return b
}

// same: are the two messages one? Nil and empty lists are.
func same(a, b api.Message) bool {
	return a.Kind == b.Kind && a.From == b.From && a.Epoch == b.Epoch && a.Clock == b.Clock &&
		a.Rounds == b.Rounds && slices.Equal(a.Acts, b.Acts)
}

// wantForm: the message has these bytes, and the bytes are this message.
func wantForm(t *testing.T, m api.Message, digits string) {
	t.Helper()
	want := raw(t, digits)
	if !packet.Right(m) {
		t.Errorf("%v is not right", m)
	}
	if got, err := packet.Bytes(m); err != nil || !bytes.Equal(got, want) {
		t.Errorf("the bytes are % x, %v, not % x", got, err, want)
	}
	if got, err := packet.Read(want); err != nil || !same(got, m) {
		t.Errorf("% x is read as %v, %v, not as %v", want, got, err, m)
	}
	if got := packet.Kind(want); got != m.Kind {
		t.Errorf("the Kind of % x is %d, not %d", want, got, m.Kind)
	}
}

// wantWrong: the message is not right, and has no bytes.
func wantWrong(t *testing.T, m api.Message) {
	t.Helper()
	if packet.Right(m) {
		t.Errorf("%v is right", m)
	}
	b, err := packet.Bytes(m)
	f, ok := err.(*fault.Fault)
	if len(b) > 0 || !ok || *f != (fault.Fault{Layer: "packet", Call: "Bytes", At: -1, Why: api.ErrForm}) {
		t.Errorf("Bytes of %v is % x, %v", m, b, err)
	}
}

// wantNoForm: packet itself refuses the bytes.
func wantNoForm(t *testing.T, b []byte, at int) {
	t.Helper()
	m, err := packet.Read(b)
	f, ok := err.(*fault.Fault)
	if !ok || *f != (fault.Fault{Layer: "packet", Call: "Read", At: at, Why: api.ErrForm}) || !same(m, api.Message{}) {
		t.Errorf("Read of % x is %v, %v, not packet.Read at %d: bad form", b, m, err, at)
	}
}

// wantWire: wire refuses the bytes, and packet wraps that.
func wantWire(t *testing.T, b []byte, call string, at int, why error) {
	t.Helper()
	m, err := packet.Read(b)
	f, ok := err.(*fault.Fault)
	if !ok || *f != (fault.Fault{Layer: "packet", Call: "Read", At: at, Why: f.Why}) || !same(m, api.Message{}) {
		t.Errorf("Read of % x is %v, %v, not packet.Read at %d", b, m, err, at)
		return
	}
	inner, ok := f.Why.(*fault.Fault)
	if !ok || *inner != (fault.Fault{Layer: "wire", Call: call, At: at, Why: why}) {
		t.Errorf("Read of % x is refused by %v, not by wire.%s at %d: %v", b, f.Why, call, at, why)
	}
}

func insert(at int, char rune, replica int) api.Op {
	return api.Op{Kind: api.Insert, At: at, Char: char, Replica: replica}
}

func digest() api.Message {
	return api.Message{Kind: api.Digest, From: 2, Clock: api.Clock{3, 0, 1}}
}

func acts() api.Message {
	return api.Message{Kind: api.Acts, From: 1, Epoch: 4, Acts: []api.Act{
		{Op: insert(0, 'a', 1), Number: 1},
		{Op: api.Op{Kind: api.Erase, At: 5, Replica: 0}, Number: 2, Clock: api.Clock{1, 1}},
		{Op: api.Op{Kind: api.Restore, At: 5, Replica: 7}, Number: 3, Clock: api.Clock{7: 2}},
	}}
}

func state() api.Message {
	return api.Message{Kind: api.State, Rounds: api.Rounds{
		1: {Number: 1, Cut: api.Clock{2}, Votes: [api.MaxReplicas]int{1, 1}},
		4: {Number: 9, Cut: api.Clock{0, 5}, Votes: [api.MaxReplicas]int{0, 2, 7: 1}, Decision: api.Abort},
	}}
}

func reply() api.Message {
	m := acts()
	m.Kind, m.Rounds = api.Reply, state().Rounds
	return m
}

func allKinds() []api.Message { return []api.Message{acts(), digest(), reply(), state()} }

// P9.1: Right and Bytes

func TestOrdinaryMessagesAreWritten(t *testing.T) {
	const (
		threeActs = "03  01 01 00 61 01 00  02 00 05 02 02 01 01  03 07 05 03 08 00 00 00 00 00 00 00 02"
		twoRounds = "05  00  01 01 02 02 01 01 00  00 00  09 02 00 05 08 00 02 00 00 00 00 00 01 02"
	)
	wantForm(t, acts(), "01 01 04"+threeActs)
	wantForm(t, digest(), "02 02 00  03 03 00 01")
	wantForm(t, reply(), "03 01 04"+threeActs+twoRounds)
	wantForm(t, state(), "04 00 00"+twoRounds)
}

func TestGreatNumbersAreWritten(t *testing.T) {
	const top = " ff ff ff ff ff ff ff ff 7f "
	full := api.Clock{most, most, most, most, most, most, most, most}
	eight := "08" + strings.Repeat(top, 8)
	wantForm(t, api.Message{Kind: api.Digest, From: 7, Epoch: most, Clock: full}, "02 07"+top+eight)
	wantForm(t, api.Message{Kind: api.Acts, From: 7, Epoch: most, Acts: []api.Act{{Op: insert(most, api.MaxChar, 7), Number: most, Clock: full}}},
		"01 07"+top+"01 01 07"+top+"ff ff 43"+top+eight)
	round := api.Round{Number: most, Cut: full, Votes: [api.MaxReplicas]int{2, 2, 2, 2, 2, 2, 2, 2}, Decision: 2}
	wantForm(t, api.Message{Kind: api.State, Rounds: api.Rounds{round, round, round, round, round, round, round, round}},
		"04 00 00 08"+strings.Repeat(top+eight+"08 02 02 02 02 02 02 02 02 02", 8))
}

func TestEveryHeadIsWritten(t *testing.T) {
	for _, m := range allKinds() {
		for from := range api.MaxReplicas {
			for _, epoch := range []int{0, 1, 127, 128, 1 << 40, most} {
				m.From, m.Epoch = from, epoch
				if !packet.Right(m) {
					t.Errorf("%v is not right", m)
				}
				b, err := packet.Bytes(m)
				if got, _ := packet.Read(b); err != nil || !same(got, m) {
					t.Errorf("%v is read as %v", m, got)
				}
			}
		}
	}
}

func TestWrongHeads(t *testing.T) {
	for _, kind := range []int{0, -1, 5, 6, 257, 258, math.MinInt, most} {
		wantWrong(t, api.Message{Kind: kind})
	}
	for _, m := range allKinds() {
		for _, from := range []int{-1, 8, 9, math.MinInt, most} {
			wrong := m
			wrong.From = from
			wantWrong(t, wrong)
		}
		for _, epoch := range []int{-1, -128, math.MinInt} {
			wrong := m
			wrong.Epoch = epoch
			wantWrong(t, wrong)
		}
	}
}

// What a kind does not use is zero.
func TestMoreThanAKindUses(t *testing.T) {
	for _, m := range allKinds() {
		none := api.Message{Kind: m.Kind}
		none.Acts = []api.Act{}
		if !packet.Right(none) {
			t.Errorf("an empty list of acts is not right in the kind %d", m.Kind)
		}
		usesActs := m.Kind == api.Acts || m.Kind == api.Reply
		usesRounds := m.Kind == api.Reply || m.Kind == api.State
		for _, act := range acts().Acts {
			wrong := m
			if wrong.Acts = append(slices.Clone(m.Acts), act); !usesActs {
				wantWrong(t, wrong)
			} else if !packet.Right(wrong) {
				t.Errorf("%v is not right", wrong)
			}
		}
		for i := range api.MaxReplicas {
			wrong := m
			if wrong.Clock[i] = 1; m.Kind != api.Digest {
				wantWrong(t, wrong)
			}
			wrong = m
			if wrong.Rounds[i] = (api.Round{Number: 1}); !usesRounds {
				wantWrong(t, wrong)
			}
		}
	}
	for _, kind := range []int{api.Acts, api.Digest} {
		wantWrong(t, api.Message{Kind: kind, Rounds: api.Rounds{7: {Decision: 1}}})
	}
	wantWrong(t, api.Message{Kind: api.Digest, Acts: make([]api.Act, 1)})
	wantWrong(t, api.Message{Kind: api.State, Acts: make([]api.Act, 1)})
}

func TestWrongActs(t *testing.T) {
	erase := api.Op{Kind: api.Erase}
	restore := api.Op{Kind: api.Restore, At: 3, Replica: 1}
	for _, act := range []api.Act{
		{},
		{Op: api.Op{Kind: 0}, Number: 1},
		{Op: api.Op{Kind: -1}, Number: 1},
		{Op: api.Op{Kind: 4}, Number: 1},
		{Op: api.Op{Kind: 257}, Number: 1},
		{Op: insert(0, 'a', -1), Number: 1},
		{Op: insert(0, 'a', 8), Number: 1},
		{Op: insert(-1, 'a', 0), Number: 1},
		{Op: insert(math.MinInt, 'a', 0), Number: 1},
		{Op: insert(0, -1, 0), Number: 1},
		{Op: insert(0, api.MaxChar+1, 0), Number: 1},
		{Op: insert(0, math.MaxInt32, 0), Number: 1},
		{Op: insert(0, math.MinInt32, 0), Number: 1},
		{Op: api.Op{Kind: api.Erase, Char: 1}, Number: 1},
		{Op: api.Op{Kind: api.Erase, Char: -1}, Number: 1},
		{Op: api.Op{Kind: api.Restore, Char: 'a'}, Number: 1},
		{Op: api.Op{Kind: api.Erase, At: -1}, Number: 1},
		{Op: api.Op{Kind: api.Restore, Replica: 8}, Number: 1},
		{Op: erase, Number: 0},
		{Op: erase, Number: -1},
		{Op: restore, Number: math.MinInt},
		{Op: erase, Number: 1, Clock: api.Clock{-1}},
		{Op: restore, Number: 1, Clock: api.Clock{1, 2, 3, 4, 5, 6, 7, -8}},
		{Op: insert(0, 'a', 0), Number: 1, Clock: api.Clock{0, 0, 0, math.MinInt}},
	} {
		for _, m := range []api.Message{acts(), reply()} {
			for i := range m.Acts {
				wrong := m
				wrong.Acts = slices.Clone(m.Acts)
				wrong.Acts[i] = act
				wantWrong(t, wrong)
			}
		}
	}
}

func TestRightActs(t *testing.T) {
	for _, op := range []api.Op{
		insert(0, 0, 0), insert(0, 0x7f, 7), insert(0, 0x80, 3), insert(most, api.MaxChar, 7),
		insert(1, 0xD7FF, 0), insert(1, 0xD800, 0), insert(1, 0xDABC, 0), insert(1, 0xDFFF, 0), insert(1, 0xE000, 0),
		{Kind: api.Erase}, {Kind: api.Erase, At: most, Replica: 7}, {Kind: api.Restore}, {Kind: api.Restore, At: most, Replica: 7},
	} {
		for _, number := range []int{1, 2, most} {
			for _, clock := range []api.Clock{{}, {most}, {7: most}, {1, 1, 1, 1, 1, 1, 1, 1}} {
				m := api.Message{Kind: api.Acts, Acts: []api.Act{{Op: op, Number: number, Clock: clock}}}
				b, err := packet.Bytes(m)
				if got, _ := packet.Read(b); err != nil || !packet.Right(m) || !same(got, m) {
					t.Errorf("%v is % x, %v, and is read as %v", m, b, err, got)
				}
			}
		}
	}
}

func TestWrongClocks(t *testing.T) {
	for i := range api.MaxReplicas {
		for _, entry := range []int{-1, -128, math.MinInt} {
			m := api.Message{Kind: api.Digest}
			m.Clock[i] = entry
			wantWrong(t, m)
		}
	}
}

func TestWrongRounds(t *testing.T) {
	for _, round := range []api.Round{
		{Number: -1},
		{Number: math.MinInt, Cut: api.Clock{1}},
		{Cut: api.Clock{1}},
		{Cut: api.Clock{7: 1}},
		{Votes: [api.MaxReplicas]int{1}},
		{Votes: [api.MaxReplicas]int{7: 2}},
		{Decision: 1},
		{Number: 1, Cut: api.Clock{-1}},
		{Number: 1, Cut: api.Clock{7: math.MinInt}},
		{Number: 1, Votes: [api.MaxReplicas]int{3}},
		{Number: 1, Votes: [api.MaxReplicas]int{7: 3}},
		{Number: 1, Votes: [api.MaxReplicas]int{7: -1}},
		{Number: 1, Votes: [api.MaxReplicas]int{1, most}},
		{Number: 1, Decision: 3},
		{Number: 1, Decision: -1},
	} {
		for i := range api.MaxReplicas {
			for _, m := range []api.Message{reply(), state()} {
				m.Rounds[i] = round
				wantWrong(t, m)
			}
		}
	}
}

func TestRightRounds(t *testing.T) {
	for i := range api.MaxReplicas {
		for k := range api.MaxReplicas {
			for vote := range 3 {
				for decision := range 3 {
					m := api.Message{Kind: api.State}
					m.Rounds[i] = api.Round{Number: 1 + i, Decision: decision}
					m.Rounds[i].Cut[k] = k
					m.Rounds[i].Votes[k] = vote
					b, err := packet.Bytes(m)
					if got, _ := packet.Read(b); err != nil || !packet.Right(m) || !same(got, m) {
						t.Errorf("%v is % x, %v, and is read as %v", m, b, err, got)
					}
				}
			}
		}
	}
}

func TestManyActs(t *testing.T) {
	for _, n := range []int{127, 128, api.MaxBatch, api.MaxBatch + 1, 5000} {
		m := api.Message{Kind: api.Reply, Rounds: state().Rounds}
		for i := range n {
			m.Acts = append(m.Acts, api.Act{Op: insert(i, rune(i), i%8), Number: i + 1, Clock: api.Clock{i}})
		}
		b, err := packet.Bytes(m)
		if got, _ := packet.Read(b); err != nil || !same(got, m) {
			t.Errorf("%d acts are not there and back: %v", n, err)
		}
	}
}

// P9.1: Kind

func TestKind(t *testing.T) {
	for first := range 256 {
		want := first
		if first > 4 {
			want = 0
		}
		for _, b := range [][]byte{{byte(first)}, {byte(first), 2, 0}, {byte(first), 0xff}} {
			if got := packet.Kind(b); got != want {
				t.Errorf("the Kind of % x is %d", b, got)
			}
		}
	}
	if packet.Kind(nil) != 0 || packet.Kind([]byte{}) != 0 || packet.Kind([]byte{2, 2}[:0]) != 0 {
		t.Error("no bytes have a Kind")
	}
}

// P9.2: what packet refuses, at the place at which it begins

func TestKindsThatAreNone(t *testing.T) {
	for first := range 256 {
		if first >= 1 && first <= 4 {
			continue
		}
		wantNoForm(t, []byte{byte(first)}, 0)
		wantNoForm(t, []byte{byte(first), 8, 0xff}, 0)
	}
	for kind := range 256 {
		if kind >= 1 && kind <= 3 {
			continue
		}
		k := byte(kind)
		wantNoForm(t, []byte{1, 0, 0, 1, k, 0, 0, 1}, 4)
		wantNoForm(t, []byte{3, 0, 0, 1, k, 0xff, 0xff, 0xff}, 4)
		wantNoForm(t, []byte{1, 0, 0, 2, 2, 0, 0, 1, 0, k, 0, 0, 1, 0}, 9)
	}
}

func TestZerosThatHaveNoForm(t *testing.T) {
	for digits, at := range map[string]int{
		"01 00 00 01  01 00 00 61 00":                      8, // an act's Number
		"01 00 00 01  02 00 00 00 09":                      7,
		"03 00 80 01 01  03 07 ac 02 00 00":                9,
		"01 00 00 02  02 00 00 01 00  02 00 00 00 ff":      12,
		"02 00 00  01 00":                                  4, // the last entry of a clock
		"02 00 00  02 80 01 00 07":                         6,
		"02 00 00  08 01 01 01 01 01 01 01 00":             11,
		"01 00 00 01  02 00 00 01 01 00":                   9,
		"04 00 00 01  01 02 01 00 ff":                      7,
		"04 00 00 01  01 00 01 00 ff":                      7, // the last vote
		"04 00 00 01  01 00 08 01 01 01 01 01 01 01 00 00": 14,
		"04 00 00  01 00":                                  4, // the Number of the last round
		"04 00 00  03 00 00 00 ff":                         6,
		"04 00 00  02 01 00 00 00 00":                      8,
		"04 00 00  08 00 00 00 00 00 00 00 00":             11,
		"03 00 00 00  01 00":                               5,
	} {
		wantNoForm(t, raw(t, digits), at)
	}
}

// Only the last ones may not be 0.
func TestZerosAheadOfTheLast(t *testing.T) {
	wantForm(t, api.Message{Kind: api.Digest, Clock: api.Clock{7: 1}}, "02 00 00 08 00 00 00 00 00 00 00 01")
	wantForm(t, api.Message{Kind: api.State, Rounds: api.Rounds{7: {Number: 1}}}, "04 00 00 08 00 00 00 00 00 00 00 01 00 00 00")
	wantForm(t, api.Message{Kind: api.State, Rounds: api.Rounds{{Number: 1, Votes: [api.MaxReplicas]int{7: 1}}}},
		"04 00 00 01 01 00 08 00 00 00 00 00 00 00 01 00")
}

// P9.2: what wire refuses, wrapped

func TestWiresRefusals(t *testing.T) {
	for _, x := range []struct {
		digits, call string
		at           int
		why          error
	}{
		{"", "Byte", 0, api.ErrShort},
		{"02", "Number", 1, api.ErrShort},
		{"02 08", "Number", 1, api.ErrRange}, // From
		{"02 ff", "Number", 1, api.ErrShort},
		{"02 80 00 00 00", "Number", 1, api.ErrForm},
		{"02 00 ff ff ff ff ff ff ff ff ff", "Number", 2, api.ErrForm}, // Epoch
		{"02 00 81 00", "Number", 2, api.ErrForm},
		{"02 00 00", "Number", 3, api.ErrShort}, // a clock
		{"02 00 00 09", "Number", 3, api.ErrRange},
		{"02 00 00 02 01", "Number", 5, api.ErrShort},
		{"02 00 00 01 80 00", "Number", 4, api.ErrForm},
		{"02 00 00 02 05 ff ff ff ff ff ff ff ff ff", "Number", 5, api.ErrForm},
		{"01 00 00", "Count", 3, api.ErrShort}, // acts
		{"01 00 00 01", "Count", 3, api.ErrShort},
		{"01 00 00 01 09 09 09", "Count", 3, api.ErrShort},
		{"01 00 00 02 09 09 09 09 09 09 09", "Count", 3, api.ErrShort},
		{"01 00 00 01 02 00 00 01", "Number", 8, api.ErrShort},
		{"01 00 00 ff ff ff ff 07", "Count", 3, api.ErrShort}, // 2^31 - 1
		{"01 00 00 80 80 80 80 08", "Count", 3, api.ErrRange},
		{"01 00 00 ff ff ff ff ff ff ff ff 7f", "Count", 3, api.ErrRange},
		{"01 00 00 80 00", "Count", 3, api.ErrForm},
		{"01 00 00 01 01 08 00 61 01 00", "Number", 5, api.ErrRange},       // Replica
		{"01 00 00 01 01 00 80 00 61 01 00", "Number", 6, api.ErrForm},     // At
		{"01 00 00 01 01 00 00 80 80 44 01 00", "Number", 7, api.ErrRange}, // Char
		{"01 00 00 01 02 00 00 80 80", "Number", 7, api.ErrShort},          // an act's Number
		{"01 00 00 01 02 00 00 80 00 00", "Number", 7, api.ErrForm},
		{"01 00 00 01 02 00 00 01 09", "Number", 8, api.ErrRange},
		{"03 00 00 00", "Number", 4, api.ErrShort}, // rounds
		{"03 00 00 00 09", "Number", 4, api.ErrRange},
		{"04 00 00 09", "Number", 3, api.ErrRange},
		{"04 00 00 01", "Number", 4, api.ErrShort},
		{"04 00 00 01 80 00", "Number", 4, api.ErrForm},
		{"04 00 00 01 01 09", "Number", 5, api.ErrRange}, // Cut
		{"04 00 00 01 01 00", "Number", 6, api.ErrShort}, // votes
		{"04 00 00 01 01 00 09", "Number", 6, api.ErrRange},
		{"04 00 00 01 01 00 01 03 00", "Number", 7, api.ErrRange},
		{"04 00 00 01 01 00 02 03 00", "Number", 7, api.ErrRange},
		{"04 00 00 01 01 00 00", "Number", 7, api.ErrShort}, // Decision
		{"04 00 00 01 01 00 00 03", "Number", 7, api.ErrRange},
		{"01 00 00 00 00", "End", 4, api.ErrForm},
		{"02 00 00 00 ff ff", "End", 4, api.ErrForm},
		{"03 00 00 00 00 01", "End", 5, api.ErrForm},
		{"04 00 00 00 04", "End", 4, api.ErrForm},
		{"04 00 00 01 01 00 00 02 00", "End", 8, api.ErrForm},
	} {
		wantWire(t, raw(t, x.digits), x.call, x.at, x.why)
	}
}

// An act's Char that is not used stands nowhere, and the greatest numbers are taken.
func TestReadTakesTheGreatest(t *testing.T) {
	wantForm(t, api.Message{Kind: api.Acts, From: 7, Acts: []api.Act{{Op: insert(0, api.MaxChar, 7), Number: 1}}}, "01 07 00 01 01 07 00 ff ff 43 01 00")
	wantForm(t, api.Message{Kind: api.Acts, Acts: []api.Act{{Op: api.Op{Kind: api.Restore}, Number: 1}}}, "01 00 00 01 03 00 00 01 00")
	wantForm(t, api.Message{Kind: api.Acts, Acts: []api.Act{{Op: insert(0, 0xDFFF, 0), Number: 1}}}, "01 00 00 01 01 00 00 ff bf 03 01 00")
}

// P9.3

func TestBytesLeavesTheMessage(t *testing.T) {
	for _, m := range allKinds() {
		spare := append(slices.Clone(m.Acts), api.Act{Number: 77}, api.Act{Number: 78})
		before := slices.Clone(spare)
		m.Acts = spare[:len(m.Acts)]
		kept := m
		first, err := packet.Bytes(m)
		if err != nil || !reflect.DeepEqual(m, kept) || !slices.Equal(spare, before) {
			t.Errorf("Bytes changes %v, or refuses it: %v", m, err)
		}
		want := bytes.Clone(first)
		scribble(first)
		second, _ := packet.Bytes(m)
		if !bytes.Equal(second, want) || !slices.Equal(spare, before) {
			t.Errorf("what Bytes has answered is not the caller's own")
		}
	}
}

func TestReadLeavesTheBytes(t *testing.T) {
	for _, m := range allKinds() {
		b, _ := packet.Bytes(m)
		spare := append(bytes.Clone(b), 0xaa, 0xbb)
		before := bytes.Clone(spare)
		first, err := packet.Read(spare[:len(b)])
		if err != nil || !bytes.Equal(spare, before) {
			t.Errorf("Read changes % x, or refuses it: %v", b, err)
		}
		scribble(spare)
		if !same(first, m) {
			t.Errorf("what Read has answered hangs on the bytes: %v", first)
		}
		second, _ := packet.Read(b)
		for i := range first.Acts {
			first.Acts[i] = api.Act{Number: 99}
		}
		_ = append(first.Acts, api.Act{Number: 99})
		third, _ := packet.Read(b)
		if !same(second, m) || !same(third, m) {
			t.Errorf("what Read has answered is not the caller's own")
		}
	}
}

func TestReadLeavesRefusedBytes(t *testing.T) {
	for _, digits := range []string{"05 01", "02 02 00 02 03 00", "01 00 00 7f", "02 02 00 00 00"} {
		b := raw(t, digits)
		packet.Read(b)
		if !bytes.Equal(b, raw(t, digits)) {
			t.Errorf("Read has made % x of %s", b, digits)
		}
	}
}

// scribble overwrites bytes, their spare room too.
func scribble(b []byte) {
	b = b[:cap(b)]
	for i := range b {
		b[i] = 0xee
	}
}
