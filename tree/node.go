package tree

import (
	"iter"

	"barrow/api"
)

// node is a leaf, or has two nodes below it whose heights differ by 1 at
// most. A row without elements is nil. No node and no leaf's list is changed
// once it is made: rows that have parts in common share them.
type node[E Weighed] struct {
	left, right *node[E]
	leaf        []E
	height      int
	size        int
	weight      api.Weight
}

// leafOf keeps the list: it must be new.
func leafOf[E Weighed](list []E) *node[E] {
	return &node[E]{leaf: list, size: len(list), weight: sum(list)}
}

func inner[E Weighed](left, right *node[E]) *node[E] {
	return &node[E]{
		left:   left,
		right:  right,
		height: 1 + max(left.height, right.height),
		size:   left.size + right.size,
		weight: plus(left.weight, right.weight),
	}
}

func (n *node[E]) isLeaf() bool { return n.left == nil }

func sizeOf[E Weighed](n *node[E]) int {
	if n == nil {
		return 0
	}
	return n.size
}

func plus(a, b api.Weight) api.Weight {
	return api.Weight{Live: a.Live + b.Live, Lines: a.Lines + b.Lines}
}

func sum[E Weighed](list []E) api.Weight {
	var all api.Weight
	for _, e := range list {
		all = plus(all, weigh(e))
	}
	return all
}

// weigh counts an element as nothing whose Weight panics, as that of a nil
// one may: no call of a tree panics, whatever it holds.
func weigh[E Weighed](e E) (w api.Weight) {
	defer func() {
		if recover() != nil {
			w = api.Weight{}
		}
	}()
	return e.Weight()
}

// leafAt is the leaf in which place i lies, and where in it. A place between
// two leaves lies in the one behind it.
func leafAt[E Weighed](n *node[E], i int) ([]E, int) {
	for !n.isLeaf() {
		if i < n.left.size {
			n = n.left
		} else {
			i -= n.left.size
			n = n.right
		}
	}
	return n.leaf, i
}

func weightBefore[E Weighed](n *node[E], i int) api.Weight {
	var ahead api.Weight
	if n == nil {
		return ahead
	}
	for !n.isLeaf() {
		if i < n.left.size {
			n = n.left
		} else {
			ahead = plus(ahead, n.left.weight)
			i -= n.left.size
			n = n.right
		}
	}
	return plus(ahead, sum(n.leaf[:i]))
}

// passed is the place of the element at which the sum of a part of the
// weights goes above count. Where no sum does, since weights are not what
// they must be, it is the last one that was left to look at.
func passed[E Weighed](n *node[E], count int, part func(api.Weight) int) int {
	i := 0
	for !n.isLeaf() {
		if left := part(n.left.weight); count < left {
			n = n.left
		} else {
			count -= left
			i += n.left.size
			n = n.right
		}
	}
	for _, e := range n.leaf[:len(n.leaf)-1] {
		w := part(weigh(e))
		if count < w {
			return i
		}
		count -= w
		i++
	}
	return i
}

// leaves tells the lists of the leaves, in order.
func leaves[E Weighed](n *node[E]) iter.Seq[[]E] {
	return func(yield func([]E) bool) {
		if n != nil {
			eachLeaf(n, yield)
		}
	}
}

// eachLeaf says whether the telling shall go on.
func eachLeaf[E Weighed](n *node[E], yield func([]E) bool) bool {
	if n.isLeaf() {
		return yield(n.leaf)
	}
	return eachLeaf(n.left, yield) && eachLeaf(n.right, yield)
}
