package audit

import (
	"cmp"
	"slices"

	"barrow/api"
)

// places are where the IDs of a list stand first: from the back on, that of an
// earlier one overwrites that of a later one.
func places(l []api.Element) map[api.ID]int {
	first := make(map[api.ID]int, len(l))
	for i, e := range slices.Backward(l) {
		first[e.ID] = i
	}
	return first
}

// Ordered: do elements stand in one order in all lists?
func Ordered(l ...[]api.Element) bool {
	for i, list := range l {
		at := places(list)
		if len(at) < len(list) {
			return false
		}
		for _, earlier := range l[:i] {
			if !isInOrder(earlier, at) {
				return false
			}
		}
	}
	return true
}

// isInOrder: do those elements of a list that have a place stand as their
// places do?
func isInOrder(l []api.Element, at map[api.ID]int) bool {
	last := 0
	for _, e := range l {
		place, there := at[e.ID]
		if !there {
			continue
		}
		if place < last {
			return false
		}
		last = place
	}
	return true
}

// spot is where an ID stands in two lists.
type spot struct {
	id       api.ID
	inA, inB int
}

// shared are the IDs that stand in both lists, in the order of a.
func shared(a, b []api.Element) []spot {
	inB := places(b)
	var spots []spot
	for id, i := range places(a) {
		if j, there := inB[id]; there {
			spots = append(spots, spot{id, i, j})
		}
	}
	slices.SortFunc(spots, func(x, y spot) int { return cmp.Compare(x.inA, y.inA) })
	return spots
}

// First is the first pair that stands otherwise.
func First(a, b []api.Element) (x, y api.ID, ok bool) {
	spots := shared(a, b)
	first, least := -1, len(b)
	for i, s := range slices.Backward(spots) {
		if least < s.inB {
			first = i
		}
		least = min(least, s.inB)
	}
	if first < 0 {
		return api.ID{}, api.ID{}, false
	}
	s, behind := spots[first], spots[first+1:]
	i := slices.IndexFunc(behind, func(other spot) bool { return other.inB < s.inB })
	return s.id, behind[i].id, true
}

// Shared is how many elements stand in both.
func Shared(a, b []api.Element) int { return len(shared(a, b)) }
