package tree

import (
	"math/rand"
	"slices"
	"testing"

	"barrow/api"
)

type unit int

func (u unit) Weight() api.Weight { return api.Weight{Live: 1, Lines: int(u) % 2} }

// wantBalanced says the height, and that all below is as it must be.
func wantBalanced(t *testing.T, n *node[unit]) int {
	t.Helper()
	if n.isLeaf() {
		if n.right != nil || n.height != 0 || n.size != len(n.leaf) || n.size == 0 || n.weight != sum(n.leaf) {
			t.Fatalf("a leaf is %+v", *n)
		}
		return 0
	}
	left, right := wantBalanced(t, n.left), wantBalanced(t, n.right)
	if n.leaf != nil || n.size != n.left.size+n.right.size || n.weight != plus(n.left.weight, n.right.weight) {
		t.Fatalf("a node is %+v", *n)
	}
	if n.height != 1+max(left, right) || left-right > 1 || right-left > 1 {
		t.Fatalf("a node of the height %d has %d and %d below it", n.height, left, right)
	}
	return n.height
}

// P4.6: every way down is short, however the row was made. Heights that
// differ by 1 at most make it short.
func TestWaysDownAreShort(t *testing.T) {
	rnd := rand.New(rand.NewSource(1))
	for name, place := range map[string]func(n int) int{
		"ahead":    func(n int) int { return 0 },
		"behind":   func(n int) int { return n },
		"midst":    func(n int) int { return n / 2 },
		"anywhere": func(n int) int { return rnd.Intn(n + 1) },
	} {
		for _, chunk := range []int{2, 3, 64} {
			x, _ := New[unit](chunk)
			for k := range 3000 {
				x.Insert(place(x.Len()), unit(k))
				if k%97 == 0 {
					x.Insert(place(x.Len()), slices.Repeat([]unit{1, 2, 3}, k%50)...)
				}
				if k%5 == 0 {
					i := place(x.Len())
					x.Remove(i, min(rnd.Intn(2*chunk), x.Len()-i))
				}
				if k%60 == 0 && x.Len() > 0 {
					wantBalanced(t, x.root)
				}
			}
			for k := 0; x.Len() > 0; k++ {
				if k%20 == 0 || x.Len() < 50 {
					wantBalanced(t, x.root)
				}
				i := place(x.Len() - 1)
				x.Remove(i, min(1+rnd.Intn(90), x.Len()-i))
			}
			if x.root != nil {
				t.Errorf("%s: a node is left of an empty row", name)
			}
		}
	}
}

// What is joined is as long as both, whatever their heights are.
func TestJoined(t *testing.T) {
	for a := range 70 {
		for b := range 70 {
			front, back := make([]unit, a), make([]unit, b)
			for i := range front {
				front[i] = unit(i)
			}
			for i := range back {
				back[i] = unit(a + i)
			}
			n := joined(packed(2, front), packed(2, back))
			if sizeOf(n) != a+b {
				t.Fatalf("%d and %d joined are %d", a, b, sizeOf(n))
			}
			if n == nil {
				continue
			}
			wantBalanced(t, n)
			i := 0
			for leaf := range leaves(n) {
				for _, u := range leaf {
					if u != unit(i) {
						t.Fatalf("%d and %d joined have %d at %d", a, b, u, i)
					}
					i++
				}
			}
		}
	}
}

// A row that is held keeps its elements, whatever the tree does from then on.
func TestNodesNeverChange(t *testing.T) {
	rnd := rand.New(rand.NewSource(2))
	type moment struct {
		root *node[unit]
		row  []unit
	}
	x, _ := New[unit](5)
	var held []moment
	var row []unit
	for k := range 400 {
		i := rnd.Intn(len(row) + 1)
		switch {
		case k%3 < 2:
			x.Insert(i, unit(k), unit(-k))
			row = slices.Insert(row, i, unit(k), unit(-k))
		case i < len(row):
			x.Set(i, 7)
			row[i] = 7
			x.Remove(i, 1)
			row = slices.Delete(row, i, i+1)
		}
		held = append(held, moment{x.root, slices.Clone(row)})
	}
	for _, m := range held {
		var l []unit
		for leaf := range leaves(m.root) {
			l = append(l, leaf...)
		}
		if !slices.Equal(l, m.row) {
			t.Fatalf("a held row has become %v, not %v", l, m.row)
		}
	}
}
