package model

import "sort"

// Each ID has a rank, 0 to 2^rankBits - 1; ranks rise along the row. So an
// insert gives one rank, and moves few others, where indexes would move all
// that stand behind it.
const (
	rankBits  = 62
	leastBits = 4 // of the least piece of ranks that is laid out anew: see respace
)

// evenRank is the k-th of count ranks that lie evenly in the 2^bits from low
// on, not at the very ends of them.
func evenRank(low, bits, k, count int) int {
	step := (1 << bits) / count
	return low + k*step + step/2
}

func (m *Model) rankAt(i int) int {
	e, _ := m.Tree.At(i)
	return m.ranks[e.ID]
}

// indexOf is where the element of a rank stands.
func (m *Model) indexOf(rank int) int {
	return sort.Search(m.Len(), func(i int) bool { return m.rankAt(i) >= rank })
}

// rankFor is a rank for an element that is laid ahead of the i-th one.
func (m *Model) rankFor(i int) int {
	ahead, behind := m.ranksBeside(i)
	if behind-ahead < 2 {
		m.respace(max(i-1, 0))
		ahead, behind = m.ranksBeside(i)
	}
	return ahead + (behind-ahead)/2
}

// ranksBeside are the ranks on both sides of a gap; at an end of the row, one
// past what a rank may be.
func (m *Model) ranksBeside(i int) (ahead, behind int) {
	ahead, behind = -1, 1<<rankBits
	if i > 0 {
		ahead = m.rankAt(i - 1)
	}
	if i < m.Len() {
		behind = m.rankAt(i)
	}
	return ahead, behind
}

// respace makes room on both sides of the i-th element: the least piece of
// ranks around it that is sparse is laid out evenly. A piece of 2^bits is
// sparse, if it has at most 2^(bits/2) elements: then each gets 4 ranks or
// more, and the greater the piece, the longer it lasts till it is laid out
// again. All ranks together are sparse while there are at most 2^31 elements.
func (m *Model) respace(i int) {
	rank := m.rankAt(i)
	from, to := i, i+1
	for bits := leastBits; bits <= rankBits; bits++ {
		low := rank >> bits << bits
		from, to = m.widened(from, to, low, low+(1<<bits))
		if to-from <= 1<<(bits/2) {
			m.layOut(from, to, low, bits)
			return
		}
	}
}

// widened is the piece of the row with the ranks from low to below high,
// sought from a piece of it on.
func (m *Model) widened(from, to, low, high int) (int, int) {
	for from > 0 && m.rankAt(from-1) >= low {
		from--
	}
	for to < m.Len() && m.rankAt(to) < high {
		to++
	}
	return from, to
}

func (m *Model) layOut(from, to, low, bits int) {
	for i := from; i < to; i++ {
		e, _ := m.Tree.At(i)
		m.ranks[e.ID] = evenRank(low, bits, i-from, to-from)
	}
}
