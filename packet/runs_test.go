package packet_test

import (
	"bytes"
	"strings"
	"testing"

	"barrow/api"
	"barrow/packet"
)

// Each row of the chapter's table.
func TestRuns(t *testing.T) {
	t.Run("there and back", func(t *testing.T) {
		wantForm(t, api.Message{Kind: api.Digest, From: 2, Clock: api.Clock{3, 0, 1}}, "02 02 00 03 03 00 01")
		wantForm(t, api.Message{Kind: api.Digest, From: 2}, "02 02 00 00")
		wantForm(t, api.Message{Kind: api.Acts, Epoch: 1, Acts: []api.Act{{Op: insert(2, 0x61, 0), Number: 1}}}, "01 00 01 01 01 00 02 61 01 00")
		wantForm(t, api.Message{Kind: api.Reply}, "03 00 00 00 00")
		round := api.Round{Number: 1, Cut: api.Clock{2}, Votes: [api.MaxReplicas]int{1, 1}}
		wantForm(t, api.Message{Kind: api.State, Rounds: api.Rounds{1: round}}, "04 00 00 02 00 01 01 02 02 01 01 00")
	})
	t.Run("Read refuses", func(t *testing.T) {
		wantNoForm(t, raw(t, "05"), 0)
		wantWire(t, nil, "Byte", 0, api.ErrShort)
		wantWire(t, []byte{}, "Byte", 0, api.ErrShort)
		wantWire(t, raw(t, "02 08"), "Number", 1, api.ErrRange)
		wantNoForm(t, raw(t, "02 02 00 02 03 00"), 5)
		wantWire(t, raw(t, "02 02 00 00 00"), "End", 4, api.ErrForm)
		wantWire(t, raw(t, "01 00 00 7f"), "Count", 3, api.ErrShort)
	})
	t.Run("Bytes refuses", func(t *testing.T) {
		wantWrong(t, api.Message{Kind: api.Digest, Acts: []api.Act{{Op: insert(0, 'a', 0), Number: 1}}})
		wantWrong(t, api.Message{Kind: api.Digest, From: 8})
		wantWrong(t, api.Message{Kind: api.Digest, Epoch: -1})
		wantWrong(t, api.Message{Kind: api.State, Rounds: api.Rounds{{Number: 1, Votes: [api.MaxReplicas]int{3}}}})
	})
}

func TestExampleActsAheadOfRounds(t *testing.T) {
	head := []byte{api.Reply, 1, 4}
	onlyActs, _ := packet.Bytes(acts())
	onlyRounds, _ := packet.Bytes(state())
	want := append(append(head, onlyActs[3:]...), onlyRounds[3:]...)
	if got, err := packet.Bytes(reply()); err != nil || !bytes.Equal(got, want) {
		t.Errorf("the bytes are % x, %v, not % x", got, err, want)
	}
}

func TestExampleRoundsWithoutNumber(t *testing.T) {
	for i := range api.MaxReplicas {
		m := api.Message{Kind: api.State}
		m.Rounds[i].Number = 1
		count := string([]byte{'0', byte('1' + i)})
		wantForm(t, m, "04 00 00"+count+strings.Repeat("00", i)+"01 00 00 00")
	}
	wantForm(t, api.Message{Kind: api.State}, "04 00 00 00")
}

func TestExampleKindOfNoBytes(t *testing.T) {
	if got := packet.Kind(nil); got != 0 {
		t.Errorf("the Kind is %d", got)
	}
}
