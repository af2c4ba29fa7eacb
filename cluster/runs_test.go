package cluster_test

import (
	"testing"

	"barrow/api"
	"barrow/cluster"
)

// Each row of the chapter's section 'Runs'.

func TestRunInsertAndDeliver(t *testing.T) {
	c := newCluster(t, two(), insert(0, 0, "ab"))
	if c.Bag().Len() != 1 {
		t.Errorf("there are %d parcels", c.Bag().Len())
	}
	wantLoad(t, c, 2, 0)
	wantDone(t, c, deliver(0))
	wantViews(t, c, "ab", "ab")
	wantLoad(t, c, 0, 0)
	wantDone(t, c, insert(1, 1, "xyz"))
	wantRefused(t, c, insert(1, 1, "wxyzw"), api.ErrFull, link("replica", "Insert", 1))
}

func TestRunRefusals(t *testing.T) {
	c := newCluster(t, two())
	wantRefusal(t, c.Step(step(api.StepDeliver)), api.ErrNone, link("cluster", "Step", 8))
	wantRefusal(t, c.Step(step(api.StepDrop)), api.ErrNone, link("cluster", "Step", 9))
	wantRefusal(t, c.Step(step(99)), api.ErrArg, link("cluster", "Step", 99))
}

func TestRunFlatten(t *testing.T) {
	c := newCluster(t, two(), insert(0, 0, "abc"), erase(0, 1, 1), deliver(0), deliver(0), propose(0))
	for round, stages := range []int{4, 3, 1, 0} {
		if round > 0 {
			c.Fair()
		}
		wantLoad(t, c, 0, stages)
	}
	for i := range 2 {
		if r := c.Replica(i); r.Epoch() != 1 || r.Len() != 2 || r.Live() != 2 || r.Credit() != (8-2)/2 {
			t.Errorf("replica %d is in epoch %d, with %d elements and the credit %d", i, r.Epoch(), r.Len(), r.Credit())
		}
	}
}

func TestRunInsertAtBoth(t *testing.T) {
	c := newCluster(t, two(), insert(0, 0, "a"), insert(1, 0, "b"))
	wantLoad(t, c, 2, 0)
	if n := c.Settle(9); n != 1 || !c.Even() {
		t.Errorf("%d rounds, even is %v", n, c.Even())
	}
}

func TestRunOneAlone(t *testing.T) {
	c := newCluster(t, config(1, 8, 4, 4), propose(0))
	if c.Replica(0).Epoch() != 1 {
		t.Errorf("it is in epoch %d", c.Replica(0).Epoch())
	}
	wantLoad(t, c, 0, 0)
}

// Each of the chapter's examples.

func TestExamples(t *testing.T) {
	c := newCluster(t, two())
	if n, err := c.Run([]byte{}); n != 0 || err != nil {
		t.Errorf("Run of no bytes is %d, %v", n, err)
	}
	alone := newCluster(t, config(1, 8, 4, 4), insert(0, 0, "ab"), erase(0, 0, 1), propose(0), step(api.StepFair))
	wantWay(t, alone)
	wantDone(t, c, insert(0, 0, "ab"))
	if c.Settle(0) != 0 {
		t.Error("Settle(0) has played a round")
	}
	wantLoad(t, c, 2, 0)
}

// The document's ten examples of the whole.

// withText is a session whose replicas both show a text of 0's.
func withText(t testing.TB, text string) *cluster.Cluster {
	t.Helper()
	c := newCluster(t, two(), insert(0, 0, text), deliver(0))
	wantViews(t, c, text, text)
	return c
}

func TestWholeInsert(t *testing.T) {
	c := newCluster(t, two())
	if c.Replica(0).Credit() != 4 || c.Replica(1).Credit() != 4 {
		t.Error("the credit is not 4 each")
	}
	wantDone(t, c, insert(0, 0, "ab")) // 1
	wantViews(t, c, "ab", "")
	wantWay(t, c, [2]int{0, 1})
	if acts := c.Replica(0).Acts(); len(acts) != 2 {
		t.Errorf("there are the acts %v", acts)
	}
	wantDone(t, c, step(api.StepDouble), deliver(0)) // 2
	wantViews(t, c, "ab", "ab")
	before := c.Replica(1).Parts()
	wantDone(t, c, deliver(0))
	if after := c.Replica(1).Parts(); len(after.Acts) != len(before.Acts) || c.Replica(1).View() != "ab" {
		t.Error("the doubled parcel has changed something")
	}
}

func TestWholeAtOnce(t *testing.T) {
	c := withText(t, "ab") // 3
	wantDone(t, c, insert(0, 1, "x"), insert(1, 1, "y"), deliver(0), deliver(0))
	wantViews(t, c, "axyb", "axyb")

	c = withText(t, "abc") // 4
	wantDone(t, c, erase(0, 1, 1), insert(1, 2, "z"), deliver(0), deliver(0))
	wantViews(t, c, "azc", "azc")
	if c.Replica(0).Len() != 4 || c.Replica(1).Len() != 4 {
		t.Error("the models don't have four elements")
	}

	c = withText(t, "abc") // 5
	wantDone(t, c, erase(0, 1, 1), erase(1, 1, 1), deliver(0), deliver(0), step(api.StepUndo))
	wantViews(t, c, "ac", "ac")
	wantDone(t, c, deliver(0))
	wantViews(t, c, "ac", "ac")
	if !c.Even() {
		t.Error("they are not even")
	}
}

func TestWholeFull(t *testing.T) {
	c := newCluster(t, two(), insert(0, 0, "abcd")) // 6
	wantRefused(t, c, insert(0, 4, "e"), api.ErrFull, link("replica", "Insert", 4))
}

func TestWholeRounds(t *testing.T) {
	c := withText(t, "ab") // 7
	wantDone(t, c, propose(0))
	if !c.Replica(0).Frozen() {
		t.Error("0 is not frozen")
	}
	wantDone(t, c, deliver(0))
	if !c.Replica(1).Frozen() {
		t.Error("1 is not frozen")
	}
	wantDone(t, c, deliver(0))
	if c.Replica(0).Epoch() != 1 {
		t.Error("0 is not in epoch 1")
	}
	wantRefused(t, c, insert(1, 0, "x"), api.ErrFrozen, link("replica", "Insert", 0))
	wantDone(t, c, deliver(0))
	if c.Replica(1).Epoch() != 1 || c.Replica(1).Frozen() {
		t.Error("1 is not in epoch 1, or frozen")
	}

	c = newCluster(t, two(), propose(0), insert(1, 0, "x"), deliver(0)) // 8
	if c.Replica(1).Rounds()[0].Votes[1] != api.No {
		t.Error("1 has not voted No")
	}
	c.Settle(9)
	for i := range 2 {
		if r := c.Replica(i); r.Frozen() || r.Epoch() != 0 || r.Rounds()[0].Decision != api.Abort {
			t.Errorf("replica %d is frozen, or has not aborted", i)
		}
	}
}

func TestWholeLost(t *testing.T) {
	c := newCluster(t, two(), insert(0, 0, "ab"), step(api.StepDrop)) // 9
	wantViews(t, c, "ab", "")
	wantDone(t, c, step(api.StepSync, 1), deliver(0), deliver(0))
	wantViews(t, c, "ab", "ab")
}

func TestWholeCursor(t *testing.T) {
	c := withText(t, "ab") // 10
	if c.Replica(0).Cursor() != 2 {
		t.Error("0's cursor is not behind b")
	}
	wantDone(t, c, insert(1, 0, "zz"), deliver(0))
	if c.Replica(0).Cursor() != 4 {
		t.Errorf("0's cursor is at %d", c.Replica(0).Cursor())
	}
}
