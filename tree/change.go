package tree

import "slices"

// replaced is the row with l in the place of the count elements from i on,
// all of which must be of the leaf in which i lies.
func replaced[E Weighed](n *node[E], i, count int, l []E) *node[E] {
	if n.isLeaf() {
		return leafOf(slices.Concat(n.leaf[:i], l, n.leaf[i+count:]))
	}
	if i < n.left.size {
		return inner(replaced(n.left, i, count, l), n.right)
	}
	return inner(n.left, replaced(n.right, i-n.left.size, count, l))
}

// spliced is the row with l in the place of the count elements from i on.
func spliced[E Weighed](chunk int, n *node[E], i, count int, l []E) *node[E] {
	ahead, begin := front(n, i)
	end, behind := back(n, i+count)
	middle := packed(chunk, slices.Concat(begin, l, end))
	return glued(chunk, glued(chunk, ahead, middle), behind)
}

// front is what stands ahead of place i: the leaves ahead of the one in
// which i lies, and the beginning of that one.
func front[E Weighed](n *node[E], i int) (*node[E], []E) {
	switch {
	case n == nil:
		return nil, nil
	case n.isLeaf():
		return nil, n.leaf[:i]
	case i < n.left.size:
		return front(n.left, i)
	}
	ahead, begin := front(n.right, i-n.left.size)
	return joined(n.left, ahead), begin
}

// back is what stands from place i on: the rest of the leaf in which i lies,
// and the leaves behind that one.
func back[E Weighed](n *node[E], i int) ([]E, *node[E]) {
	switch {
	case n == nil:
		return nil, nil
	case n.isLeaf():
		return n.leaf[i:], nil
	case i < n.left.size:
		end, behind := back(n.left, i)
		return end, joined(behind, n.right)
	}
	return back(n.right, i-n.left.size)
}

// packed is a row of as few leaves as there can be, all of them about as
// long: so none is short beside its neighbour, and each has room to grow.
func packed[E Weighed](chunk int, list []E) *node[E] {
	if len(list) == 0 {
		return nil
	}
	return cut(list, (len(list)+chunk-1)/chunk)
}

func cut[E Weighed](list []E, count int) *node[E] {
	if count == 1 {
		return leafOf(slices.Clone(list))
	}
	half := count / 2
	at := len(list) * half / count
	return inner(cut(list[:at], half), cut(list[at:], count-half))
}

// glued is one row behind another. Where they meet, two leaves become one if
// that is not too long; so they are short together nowhere, if they were in
// neither row.
func glued[E Weighed](chunk int, a, b *node[E]) *node[E] {
	if a == nil || b == nil {
		return joined(a, b)
	}
	ahead, last := front(a, a.size)
	first, behind := back(b, 0)
	if len(last)+len(first) > chunk {
		return joined(a, b)
	}
	return joined(joined(ahead, leafOf(slices.Concat(last, first))), behind)
}

// joined is one row behind another, of the same leaves. It goes down the
// higher one till the other one is about as high.
func joined[E Weighed](a, b *node[E]) *node[E] {
	switch {
	case a == nil:
		return b
	case b == nil:
		return a
	case a.height > b.height+1:
		return balanced(a.left, joined(a.right, b))
	case b.height > a.height+1:
		return balanced(joined(a, b.left), b.right)
	}
	return inner(a, b)
}

// balanced is one row behind another, where their heights differ by 2 at
// most.
func balanced[E Weighed](a, b *node[E]) *node[E] {
	switch {
	case b.height > a.height+1 && b.left.height > b.right.height:
		return inner(inner(a, b.left.left), inner(b.left.right, b.right))
	case b.height > a.height+1:
		return inner(inner(a, b.left), b.right)
	case a.height > b.height+1 && a.right.height > a.left.height:
		return inner(inner(a.left, a.right.left), inner(a.right.right, b))
	case a.height > b.height+1:
		return inner(a.left, inner(a.right, b))
	}
	return inner(a, b)
}
