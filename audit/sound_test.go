package audit

import (
	"reflect"
	"slices"
	"testing"

	"barrow/api"
	"barrow/fault"
	"barrow/replica"
)

// Some things that must hold can't be made not to hold by any replica: they are
// asked here of what a replica might tell.

// And what is asked is what the replica tells.
func TestSiteOf(t *testing.T) {
	base := []api.Element{{ID: api.ID{Number: 1}, Char: 'a'}, {ID: api.ID{Number: 2}, Char: 'b'}, {ID: api.ID{Number: 3}, Char: 'c'}}
	r, err := replica.From(api.Parts{
		Config: api.Config{Replicas: 2, Model: 40, Batch: 4, Buffer: 4}, Epoch: 3, Base: base,
		Acts:   []api.Act{{Op: api.Op{Kind: api.Erase, Replica: 1}, Number: 1}},
		Held:   []api.Act{{Op: api.Op{Kind: api.Erase, Replica: 1}, Number: 4, Clock: api.Clock{0, 3}}},
		Cursor: api.Anchor{ID: base[1].ID},
	})
	if err != nil {
		t.Fatal(err)
	}
	base[0].Hides = 1
	want := site{
		model: 40, credit: 18, size: 3, live: 2, cursor: 1, view: "bc",
		clock: api.Clock{0, 1}, elements: base, acts: r.Acts(), held: r.Held(),
	}
	if got := siteOf(r); len(got.acts) != 1 || len(got.held) != 1 || !reflect.DeepEqual(got, want) {
		t.Errorf("it tells %+v, want %+v", got, want)
	}
}

// right is what a sound replica tells: "ac" of 0 and 2, an erased "b" between.
func right() site {
	return site{
		model: 9, credit: 6, size: 3, live: 2, cursor: 1, view: "ac",
		clock: api.Clock{3, 0, 1},
		elements: []api.Element{
			{ID: api.ID{Number: 1}, Char: 'a'},
			{ID: api.ID{Number: 2}, Char: 'b', Hides: 1},
			{ID: api.ID{Replica: 2, Number: 1}, Char: 'c'},
		},
		acts: []api.Act{
			{Op: api.Op{Kind: api.Insert, Char: 'a'}, Number: 1},
			{Op: api.Op{Kind: api.Insert, At: 1, Char: 'b'}, Number: 2, Clock: api.Clock{1}},
			{Op: api.Op{Kind: api.Insert, At: 2, Char: 'c', Replica: 2}, Number: 1, Clock: api.Clock{2}},
			{Op: api.Op{Kind: api.Erase, At: 1}, Number: 3, Clock: api.Clock{2}},
		},
		held: []api.Act{{Op: api.Op{Kind: api.Erase, Replica: 2}, Number: 3, Clock: api.Clock{3, 0, 2}}},
	}
}

type spoilt struct {
	name    string
	spoil   func(s *site)
	numbers []int
}

func wantSpoilt(t *testing.T, rows []spoilt) {
	t.Helper()
	for _, x := range rows {
		s := right()
		x.spoil(&s)
		var refused []error
		for _, n := range x.numbers {
			refused = append(refused, fault.New("audit", "Sound", n, api.ErrForm))
		}
		got, want := s.flaws(), fault.Join(refused...)
		if (got == nil) != (want == nil) || got != nil && (got.Error() != want.Error() || !slices.Equal(fault.Codes(got), fault.Codes(want))) {
			t.Errorf("with %s Sound is %v, want %v", x.name, got, want)
		}
	}
}

func TestFlawsOfElements(t *testing.T) {
	wantSpoilt(t, []spoilt{
		{"nothing", func(s *site) {}, nil},
		{"a Hides below 0", func(s *site) { s.elements[1].Hides = -1 }, []int{1}},
		{"one that is hidden often", func(s *site) { s.elements[1].Hides = 1 << 40 }, nil},
		{"a live one too many", func(s *site) { s.live++ }, []int{2}},
		{"a live one too few", func(s *site) { s.live-- }, []int{2}},
		{"another Char", func(s *site) { s.view = "aC" }, []int{2}},
		{"the Chars in another order", func(s *site) { s.view = "ca" }, []int{2}},
		{"an erased one shown", func(s *site) { s.view = "abc" }, []int{2}},
		{"one that is not shown", func(s *site) { s.elements[1].Hides = 0 }, []int{2}},
		{"a Char of several bytes", func(s *site) { s.elements[0].Char, s.view = '世', "世c" }, nil},
		{"an ID twice", func(s *site) { s.elements[1].ID = s.elements[0].ID }, []int{3}},
		{"an ID twice, far apart", func(s *site) { s.elements[2].ID = s.elements[0].ID }, []int{3}},
		{"the ID of another epoch", func(s *site) { s.elements[2].ID = api.ID{Epoch: 1, Number: 1} }, nil},
	})
}

func TestFlawsOfRoom(t *testing.T) {
	wantSpoilt(t, []spoilt{
		{"room to spare", func(s *site) { s.model = 10 }, nil},
		{"one too few for the credit", func(s *site) { s.model = 8 }, []int{5}},
		{"a credit that is one too great", func(s *site) { s.credit = 7 }, []int{5}},
		{"no credit", func(s *site) { s.credit = 0 }, nil},
		{"a credit below 0", func(s *site) { s.credit = -1 }, []int{5}},
		{"the Model full", func(s *site) { s.model, s.credit = 3, 0 }, nil},
		{"a Model that is one too small", func(s *site) { s.model, s.credit = 2, 0 }, []int{4, 5}},
		{"that, and a credit below 0", func(s *site) { s.model, s.credit = 2, -1 }, []int{4, 5}},
	})
}

func TestFlawsOfActs(t *testing.T) {
	wantSpoilt(t, []spoilt{
		{"a cause that comes behind", func(s *site) { s.acts[1], s.acts[2] = s.acts[2], s.acts[1] }, []int{6}},
		{"an act twice", func(s *site) { s.acts = append(s.acts, s.acts[0]) }, []int{6}},
		{"an act too few", func(s *site) { s.acts = s.acts[:3] }, []int{6}},
		{"no acts", func(s *site) { s.acts = nil }, []int{6}},
		{"acts out of order, and no clock", func(s *site) { s.acts, s.clock = s.acts[1:], api.Clock{} }, []int{6}},
		{"an entry too great", func(s *site) { s.clock[2]++ }, []int{6}},
		{"an entry too small", func(s *site) { s.clock[0]-- }, []int{6}},
		{"an entry of nobody", func(s *site) { s.clock[7] = 1 }, []int{6}},
		{"an entry below 0", func(s *site) { s.clock[1] = -1 }, []int{6}},
		{"neither acts nor a clock", func(s *site) { s.acts, s.clock = nil, api.Clock{} }, nil},
		{"the next act held", func(s *site) { s.held[0].Number = 2 }, nil},
		{"the last act held", func(s *site) { s.held[0].Number = 1 }, []int{7}},
		{"the number 0 held", func(s *site) { s.held[0].Number = 0 }, nil},
		{"an early act of another one held", func(s *site) { s.held[0].Op.Replica, s.held[0].Number = 0, 2 }, []int{7}},
		{"one of nobody held", func(s *site) { s.held[0].Op.Replica, s.held[0].Number = 8, 1 }, nil},
		{"the second held one delivered", func(s *site) { s.held = append(s.held, s.acts[0]) }, []int{7}},
		{"nothing held", func(s *site) { s.held = nil }, nil},
	})
}

func TestFlawsOfCursors(t *testing.T) {
	wantSpoilt(t, []spoilt{
		{"the cursor in front", func(s *site) { s.cursor = 0 }, nil},
		{"the cursor at the end", func(s *site) { s.cursor = 2 }, nil},
		{"the cursor one further", func(s *site) { s.cursor = 3 }, []int{8}},
		{"the cursor below 0", func(s *site) { s.cursor = -1 }, []int{8}},
	})
}

func TestFlawsInOrder(t *testing.T) {
	wantSpoilt(t, []spoilt{
		{"all", func(s *site) {
			s.elements[0].Hides, s.elements[1].ID = -1, s.elements[2].ID
			s.model, s.clock[5], s.held, s.cursor = 2, 1, s.acts, 3
		}, []int{1, 2, 3, 4, 5, 6, 7, 8}},
		{"some", func(s *site) { s.view, s.cursor, s.clock[0] = "", -1, 4 }, []int{2, 6, 8}},
	})
}
