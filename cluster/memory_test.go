package cluster_test

import (
	"bytes"
	"slices"
	"testing"

	"barrow/api"
)

// R2: what is handed in is neither changed nor kept.

// scrawl writes over bytes, their spare room too.
func scrawl(l []byte) {
	l = l[:cap(l)]
	for i := range l {
		l[i] = 77
	}
}

func TestRunKeepsItsBytes(t *testing.T) {
	raw := append(make([]byte, 0, 32), 0, 0, 0, 0, 2, 0, 1, 8, 0, 0, 0, 4, 1, 0, 0, 2, 25, 24)
	spare := raw[:cap(raw)]
	copy(spare[len(raw):], "spare room")
	before := slices.Clone(spare)
	c, same := newCluster(t, two()), newCluster(t, two())
	if n, err := c.Run(raw); n != 3 || err != nil {
		t.Fatalf("%d steps, %v", n, err)
	}
	if !bytes.Equal(spare, before) {
		t.Errorf("the bytes have become %v", spare)
	}
	scrawl(raw)
	wantDone(t, same, insert(0, 0, "ab"), deliver(0), rewrite(1, "zy"))
	wantTold(t, c, tell(same))
	wantDone(t, c, step(api.StepFair), step(api.StepUndo, 1))
	wantDone(t, same, step(api.StepFair), step(api.StepUndo, 1))
	wantTold(t, c, tell(same))
}

// A piece of a row is a script of its own.
func TestRunOfAPiece(t *testing.T) {
	raw := []byte{0, 0, 0, 0, 2, 0, 1, 8, 0, 0, 0}
	c := newCluster(t, two())
	if n, err := c.Run(raw[:6]); n != 1 || err != nil {
		t.Errorf("%d steps, %v", n, err)
	}
	wantViews(t, c, "a", "")
	if n, err := c.Run(raw[7:8]); n != 1 || err != nil {
		t.Errorf("%d steps, %v", n, err)
	}
	wantViews(t, c, "a", "a")
}

// What is told of parcels, and what was put into the Bag, is the caller's own.
func TestParcelsAreOnesOwn(t *testing.T) {
	c, same := newCluster(t, two(), insert(0, 0, "ab"), step(api.StepDouble)), newCluster(t, two(), insert(0, 0, "ab"), step(api.StepDouble))
	parcels := c.Bag().All()
	raw := parcels[1].Bytes
	scrawl(parcels[0].Bytes)
	wantTold(t, c, tell(same))
	if _, err := c.Bag().Send(0, 1, raw); err != nil {
		t.Fatal(err)
	}
	if _, err := same.Bag().Send(0, 1, slices.Clone(raw)); err != nil {
		t.Fatal(err)
	}
	scrawl(raw)
	wantDone(t, c, deliver(2), deliver(0), deliver(0))
	wantDone(t, same, deliver(2), deliver(0), deliver(0))
	wantViews(t, c, "ab", "ab")
	wantTold(t, c, tell(same))
}

// Refusals that were told stay as they were.
func TestRefusalsStay(t *testing.T) {
	c := newCluster(t, two())
	_, first := c.Run([]byte{8, 0, 0, 0, 9})
	text := first.Error()
	_, second := c.Run([]byte{2, 0, 0, 0, 3, 0, 0, 0, 11})
	c.Step(step(99))
	if first.Error() != text || second == nil || second.Error() == text {
		t.Errorf("the refusal %q has become %q", text, first.Error())
	}
}
