package model

import (
	"math/rand"
	"testing"

	"barrow/api"
)

// wantRanks says that the ranks rise along the row, in their range.
func wantRanks(t *testing.T, m *Model) {
	t.Helper()
	if len(m.ranks) != m.Len() {
		t.Fatalf("there are %d ranks of %d elements", len(m.ranks), m.Len())
	}
	last := -1
	for e := range m.All() {
		rank, ok := m.ranks[e.ID]
		if !ok || rank <= last || rank >= 1<<rankBits {
			t.Fatalf("the rank behind %d is %d, %v", last, rank, ok)
		}
		last = rank
	}
}

func filled(t *testing.T, count int, place func(n int) int) *Model {
	m := New()
	for k := range count {
		if err := m.Insert(place(m.Len()), api.Element{ID: api.ID{Number: k}, Char: 'a', Hides: k % 2}); err != nil {
			t.Fatal(err)
		}
		if k < 300 || k%100 == 0 {
			wantRanks(t, m)
		}
	}
	wantRanks(t, m)
	return m
}

func TestRanks(t *testing.T) {
	rnd := rand.New(rand.NewSource(1))
	for _, place := range []func(n int) int{
		func(n int) int { return 0 },
		func(n int) int { return n },
		func(n int) int { return n / 2 },
		func(n int) int { return n/2 + n%2 },
		func(n int) int { return min(n, 1) },
		func(n int) int { return max(n-1, 0) },
		func(n int) int { return rnd.Intn(n + 1) },
	} {
		m := filled(t, 2000, place)
		wantRanks(t, m.Copy())
		m.Purge()
		wantRanks(t, m)
	}
}

// Ranks that lie as tightly as they can are laid out anew wherever one comes.
func TestTightRanks(t *testing.T) {
	for _, first := range []int{0, 1, 5, 1<<rankBits - 40} {
		for count := 1; count <= 40; count++ {
			for i := range count + 1 {
				m := New()
				for k := range count {
					m.Tree.Insert(k, api.Element{ID: api.ID{Number: k}})
					m.ranks[api.ID{Number: k}] = first + k
				}
				if err := m.Insert(i, api.Element{ID: api.ID{Number: -1}}); err != nil {
					t.Fatal(err)
				}
				wantRanks(t, m)
				if at, ok := m.Index(api.ID{Number: -1}); at != i || !ok {
					t.Fatalf("Index is %d, %v, not %d", at, ok, i)
				}
			}
		}
	}
}

// Room is made by moving few: so a long row stays quick.
func TestFewRanksMove(t *testing.T) {
	for _, place := range []func(n int) int{
		func(n int) int { return n },
		func(n int) int { return n / 2 },
		func(n int) int { return min(n, 1) },
	} {
		m := New()
		moved := 0
		kept := map[api.ID]int{}
		const count = 2000
		for k := range count {
			m.Insert(place(m.Len()), api.Element{ID: api.ID{Number: k}})
			for id, rank := range m.ranks {
				if kept[id] != rank {
					moved++
					kept[id] = rank
				}
			}
		}
		if moved > 20*count {
			t.Errorf("%d inserts have moved %d ranks", count, moved)
		}
	}
}
