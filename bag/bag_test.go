package bag_test

import (
	"bytes"
	"math"
	"slices"
	"testing"

	"barrow/api"
	"barrow/bag"
	"barrow/fault"
)

const greatestSerial = 1 << 62

// wrongMosts are no sizes of a bag.
func wrongMosts() []int {
	return []int{-1, -2, math.MinInt, api.MaxBag + 1, api.MaxBag + 2, 1 << 20, math.MaxInt}
}

// wrongEnds are ends between which no parcel goes.
func wrongEnds() [][2]int {
	list := [][2]int{
		{-1, 0}, {0, -1}, {8, 0}, {0, 8}, {-1, 8}, {8, -1}, {9, 10}, {-1, -1}, {8, 8},
		{math.MinInt, 3}, {3, math.MinInt}, {math.MaxInt, 3}, {3, math.MaxInt}, {256, 1}, {1, 256},
	}
	for r := range api.MaxReplicas {
		list = append(list, [2]int{r, r})
	}
	return list
}

func newBag(t testing.TB, most int) *bag.Bag {
	t.Helper()
	b, err := bag.New(most)
	if err != nil || b == nil {
		t.Fatalf("New(%d) is %v, %v", most, b, err)
	}
	return b
}

func loadBag(t testing.TB, most int, l ...api.Parcel) *bag.Bag {
	t.Helper()
	b, err := bag.Load(most, l)
	if err != nil || b == nil {
		t.Fatalf("Load(%d, %v) is %v, %v", most, l, b, err)
	}
	return b
}

func parcel(serial, from, to int, text string) api.Parcel {
	return api.Parcel{Serial: serial, From: from, To: to, Bytes: []byte(text)}
}

// some is a bag of the parcels 1 to 4.
func some(t testing.TB, most int) *bag.Bag {
	t.Helper()
	b := newBag(t, most)
	wantSent(t, b, 0, 1, "one", 1)
	wantSent(t, b, 1, 0, "two", 2)
	wantSent(t, b, 0, 2, "", 3)
	wantSent(t, b, 7, 1, "four", 4)
	return b
}

func someParcels() []api.Parcel {
	return []api.Parcel{parcel(1, 0, 1, "one"), parcel(2, 1, 0, "two"), parcel(3, 0, 2, ""), parcel(4, 7, 1, "four")}
}

// picked are those of l at the places.
func picked(l []api.Parcel, places ...int) []api.Parcel {
	var some []api.Parcel
	for _, i := range places {
		some = append(some, l[i])
	}
	return some
}

// same: are the two parcels one? No bytes and nil are.
func same(a, b api.Parcel) bool {
	return a.Serial == b.Serial && a.From == b.From && a.To == b.To && bytes.Equal(a.Bytes, b.Bytes)
}

func wantRefusal(t testing.TB, err error, call string, at int, why error) {
	t.Helper()
	f, ok := err.(*fault.Fault)
	if !ok || *f != (fault.Fault{Layer: "bag", Call: call, At: max(at, -1), Why: why}) {
		t.Errorf("the answer is %v, not bag.%s at %d: %v", err, call, at, why)
	}
}

func wantSent(t testing.TB, b *bag.Bag, from, to int, text string, serial int) {
	t.Helper()
	if got, err := b.Send(from, to, []byte(text)); got != serial || err != nil {
		t.Errorf("Send(%d, %d, %q) is %d, %v, not %d", from, to, text, got, err, serial)
	}
}

func wantNotSent(t testing.TB, b *bag.Bag, from, to int, why error) {
	t.Helper()
	got, err := b.Send(from, to, []byte("x"))
	wantRefusal(t, err, "Send", to, why)
	if got != 0 {
		t.Errorf("beside %v the Serial is %d", err, got)
	}
}

func wantOK(t testing.TB, err error) {
	t.Helper()
	if err != nil {
		t.Errorf("the answer is %v", err)
	}
}

func wantParcel(t testing.TB, got api.Parcel, err error, want api.Parcel) {
	t.Helper()
	if err != nil || !same(got, want) {
		t.Errorf("the parcel is %v, %v, not %v", got, err, want)
	}
}

func wantNoParcel(t testing.TB, got api.Parcel, err error, call string, at int) {
	t.Helper()
	wantRefusal(t, err, call, at, api.ErrRange)
	if !same(got, api.Parcel{}) {
		t.Errorf("beside %v the parcel is %v", err, got)
	}
}

// wantRow: the bag holds just these, whichever call is asked.
func wantRow(t testing.TB, b *bag.Bag, want ...api.Parcel) {
	t.Helper()
	if b.Len() != len(want) {
		t.Errorf("Len is %d, not %d", b.Len(), len(want))
	}
	if all := b.All(); !slices.EqualFunc(all, want, same) {
		t.Errorf("All is %v, not %v", all, want)
	}
	for i, p := range want {
		got, err := b.Look(i)
		wantParcel(t, got, err, p)
	}
	for _, i := range []int{-1, len(want), len(want) + 1, math.MinInt, math.MaxInt} {
		got, err := b.Look(i)
		wantNoParcel(t, got, err, "Look", i)
	}
	for to := -1; to <= api.MaxReplicas; to++ {
		var places []int
		for i, p := range want {
			if p.To == to {
				places = append(places, i)
			}
		}
		if got := b.To(to); !slices.Equal(got, places) {
			t.Errorf("To(%d) is %v, not %v", to, got, places)
		}
	}
}

func wantCounts(t testing.TB, b *bag.Bag, sent, arrived, dropped, doubled int) {
	t.Helper()
	s, a, d, x := b.Counts()
	if got, want := [...]int{s, a, d, x}, [...]int{sent, arrived, dropped, doubled}; got != want {
		t.Errorf("Counts are %v, not %v", got, want)
	}
}

// P10.1: New and Send

func TestNewIsEmpty(t *testing.T) {
	for _, most := range []int{0, 1, 2, 255, 256, api.MaxBag - 1, api.MaxBag} {
		b := newBag(t, most)
		wantRow(t, b)
		wantCounts(t, b, 0, 0, 0, 0)
	}
}

func TestNewRefuses(t *testing.T) {
	for _, most := range wrongMosts() {
		b, err := bag.New(most)
		wantRefusal(t, err, "New", most, api.ErrArg)
		if b != nil {
			t.Errorf("beside %v the Bag is %v", err, b)
		}
	}
}

func TestSendPutsBehind(t *testing.T) {
	b := some(t, 9)
	wantRow(t, b, someParcels()...)
	wantCounts(t, b, 4, 0, 0, 0)
}

func TestSendBetweenAllEnds(t *testing.T) {
	b := newBag(t, 56)
	var want []api.Parcel
	for from := range api.MaxReplicas {
		for to := range api.MaxReplicas {
			if from != to {
				want = append(want, parcel(len(want)+1, from, to, "x"))
				wantSent(t, b, from, to, "x", len(want))
			}
		}
	}
	wantRow(t, b, want...)
	wantCounts(t, b, 56, 0, 0, 0)
}

func TestSendRefusesEnds(t *testing.T) {
	for _, ends := range wrongEnds() {
		b := some(t, 9)
		wantNotSent(t, b, ends[0], ends[1], api.ErrArg)
		wantRow(t, b, someParcels()...)
		wantCounts(t, b, 4, 0, 0, 0)
		wantSent(t, b, 0, 1, "five", 5)
	}
}

// Wrong ends are named ahead of the room, and do not count there either.
func TestSendRefusesEndsOfAFullBag(t *testing.T) {
	for _, ends := range wrongEnds() {
		b := some(t, 4)
		wantNotSent(t, b, ends[0], ends[1], api.ErrArg)
		wantCounts(t, b, 4, 0, 0, 0)
	}
}

func TestSendRefusesForRoom(t *testing.T) {
	b := some(t, 4)
	for n := 1; n <= 3; n++ {
		wantNotSent(t, b, 0, n, api.ErrRoom)
		wantRow(t, b, someParcels()...)
		wantCounts(t, b, 4+n, 0, n, 0)
	}
	wantOK(t, b.Drop(3))
	wantSent(t, b, 0, 1, "five", 5)
	wantNotSent(t, b, 6, 5, api.ErrRoom)
	wantRow(t, b, append(someParcels()[:3], parcel(5, 0, 1, "five"))...)
	wantCounts(t, b, 9, 0, 5, 0)
}

func TestRoomAtTheLimit(t *testing.T) {
	b := newBag(t, api.MaxBag)
	for n := range api.MaxBag {
		wantSent(t, b, 0, 1, "", n+1)
	}
	wantNotSent(t, b, 0, 1, api.ErrRoom)
	wantRefusal(t, b.Double(api.MaxBag-1), "Double", api.MaxBag-1, api.ErrRoom)
	if b.Len() != api.MaxBag {
		t.Errorf("Len is %d", b.Len())
	}
	wantCounts(t, b, api.MaxBag+1, 0, 1, 0)
}

func TestSerialsGoOnBehindWhatLeft(t *testing.T) {
	b := some(t, 9)
	b.Deliver(3)
	b.Drop(0)
	wantSent(t, b, 0, 1, "", 5)
	b.Clear()
	wantSent(t, b, 0, 1, "", 6)
	b.Double(0)
	wantSent(t, b, 0, 1, "", 7)
}

func TestSendTakesAnyBytes(t *testing.T) {
	every := make([]byte, 70000)
	for i := range every {
		every[i] = byte(i)
	}
	b := newBag(t, 5)
	wantSent(t, b, 0, 1, string(every), 1)
	wantSent(t, b, 0, 1, "\xff\x00", 2)
	if serial, err := b.Send(0, 1, nil); serial != 3 || err != nil {
		t.Errorf("Send of nil is %d, %v", serial, err)
	}
	wantRow(t, b, parcel(1, 0, 1, string(every)), parcel(2, 0, 1, "\xff\x00"), parcel(3, 0, 1, ""))
}

// P10.2: places

func TestLookChangesNothing(t *testing.T) {
	b := some(t, 4)
	for range 3 {
		wantRow(t, b, someParcels()...)
	}
	wantCounts(t, b, 4, 0, 0, 0)
}

func TestDeliverTakesOut(t *testing.T) {
	for i, rest := range [][]int{{1, 2, 3}, {0, 2, 3}, {0, 1, 3}, {0, 1, 2}} {
		b, l := some(t, 4), someParcels()
		p, err := b.Deliver(i)
		wantParcel(t, p, err, l[i])
		wantRow(t, b, picked(l, rest...)...)
		wantCounts(t, b, 4, 1, 0, 0)
		wantSent(t, b, 5, 6, "five", 5)
		wantRow(t, b, append(picked(l, rest...), parcel(5, 5, 6, "five"))...)
	}
}

func TestDropTakesOut(t *testing.T) {
	for i, rest := range [][]int{{1, 2, 3}, {0, 2, 3}, {0, 1, 3}, {0, 1, 2}} {
		b, l := some(t, 4), someParcels()
		wantOK(t, b.Drop(i))
		wantRow(t, b, picked(l, rest...)...)
		wantCounts(t, b, 4, 0, 1, 0)
		wantSent(t, b, 5, 6, "five", 5)
		wantRow(t, b, append(picked(l, rest...), parcel(5, 5, 6, "five"))...)
	}
}

func TestTakingAllOut(t *testing.T) {
	for _, place := range []func(b *bag.Bag) int{
		func(b *bag.Bag) int { return 0 },
		func(b *bag.Bag) int { return b.Len() - 1 },
		func(b *bag.Bag) int { return b.Len() / 2 },
	} {
		b, l := some(t, 4), someParcels()
		for n := 1; n <= 4; n++ {
			i := place(b)
			p, err := b.Deliver(i)
			wantParcel(t, p, err, l[i])
			l = slices.Delete(l, i, i+1)
			wantRow(t, b, l...)
			wantCounts(t, b, 4, n, 0, 0)
		}
	}
}

func TestDoubleStandsLast(t *testing.T) {
	for i := range 4 {
		b, l := some(t, 6), someParcels()
		wantOK(t, b.Double(i))
		wantRow(t, b, picked(l, 0, 1, 2, 3, i)...)
		wantCounts(t, b, 4, 0, 0, 1)
		wantOK(t, b.Double(4))
		wantRow(t, b, picked(l, 0, 1, 2, 3, i, i)...)
		wantCounts(t, b, 4, 0, 0, 2)
		wantRefusal(t, b.Double(i), "Double", i, api.ErrRoom)
		wantRow(t, b, picked(l, 0, 1, 2, 3, i, i)...)
		wantCounts(t, b, 4, 0, 0, 2)
	}
}

func TestSwap(t *testing.T) {
	for i := range 4 {
		for j := range 4 {
			b, l := some(t, 4), someParcels()
			l[i], l[j] = l[j], l[i]
			wantOK(t, b.Swap(i, j))
			wantRow(t, b, l...)
			wantCounts(t, b, 4, 0, 0, 0)
		}
	}
}

// Places out of range are named ahead of the room.
func TestPlacesOutOfRange(t *testing.T) {
	for _, most := range []int{4, 9} {
		for _, i := range []int{-1, -2, 4, 5, 8, 256, math.MinInt, math.MaxInt} {
			b := some(t, most)
			p, err := b.Look(i)
			wantNoParcel(t, p, err, "Look", i)
			p, err = b.Deliver(i)
			wantNoParcel(t, p, err, "Deliver", i)
			wantRefusal(t, b.Drop(i), "Drop", i, api.ErrRange)
			wantRefusal(t, b.Double(i), "Double", i, api.ErrRange)
			for _, j := range []int{0, 3, 4, -7, 77} {
				wantRefusal(t, b.Swap(i, j), "Swap", i, api.ErrRange)
			}
			for j := range 4 {
				wantRefusal(t, b.Swap(j, i), "Swap", i, api.ErrRange)
			}
			wantRow(t, b, someParcels()...)
			wantCounts(t, b, 4, 0, 0, 0)
		}
	}
}

func TestPlacesOfAnEmptyBag(t *testing.T) {
	for _, most := range []int{0, 1} {
		b := newBag(t, most)
		p, err := b.Look(0)
		wantNoParcel(t, p, err, "Look", 0)
		p, err = b.Deliver(0)
		wantNoParcel(t, p, err, "Deliver", 0)
		wantRefusal(t, b.Drop(0), "Drop", 0, api.ErrRange)
		wantRefusal(t, b.Double(0), "Double", 0, api.ErrRange)
		wantRefusal(t, b.Swap(0, 0), "Swap", 0, api.ErrRange)
		wantRow(t, b)
		wantCounts(t, b, 0, 0, 0, 0)
	}
}

// P10.3: To, All, Counts, Clear

func TestToIsRising(t *testing.T) {
	b := some(t, 9)
	b.Double(0)
	b.Swap(0, 1)
	for to, want := range [][]int{{0}, {1, 3, 4}, {2}, nil, nil, nil, nil, nil, nil} {
		if got := b.To(to); !slices.Equal(got, want) {
			t.Errorf("To(%d) is %v, not %v", to, got, want)
		}
	}
	for _, to := range []int{-1, 8, math.MinInt, math.MaxInt} {
		if got := b.To(to); len(got) > 0 {
			t.Errorf("To(%d) is %v", to, got)
		}
	}
}

func TestCountsOfAll(t *testing.T) {
	b := some(t, 5)
	b.Double(1)
	wantNotSent(t, b, 0, 1, api.ErrRoom)
	b.Deliver(4)
	b.Deliver(0)
	b.Drop(0)
	wantRow(t, b, picked(someParcels(), 2, 3)...)
	wantCounts(t, b, 5, 2, 2, 1)
}

func TestClearDropsAll(t *testing.T) {
	b := some(t, 5)
	b.Double(1)
	b.Deliver(0)
	b.Drop(0)
	wantCounts(t, b, 4, 1, 1, 1)
	b.Clear()
	wantRow(t, b)
	wantCounts(t, b, 4, 1, 4, 1)
	wantSent(t, b, 0, 1, "five", 5)
	wantRow(t, b, parcel(5, 0, 1, "five"))
	wantCounts(t, b, 5, 1, 4, 1)
}

func TestClearMakesRoom(t *testing.T) {
	b := some(t, 4)
	b.Clear()
	for n := range 4 {
		wantSent(t, b, 0, 1, "", 5+n)
	}
	wantNotSent(t, b, 0, 1, api.ErrRoom)
}

// P10.4: Load

func TestLoadHoldsJustThese(t *testing.T) {
	l := []api.Parcel{parcel(7, 0, 1, "x"), parcel(2, 3, 0, ""), parcel(7, 0, 1, "x"), parcel(2, 7, 6, "unlike")}
	for _, most := range []int{4, 5, api.MaxBag} {
		b := loadBag(t, most, l...)
		wantRow(t, b, l...)
		wantCounts(t, b, 0, 0, 0, 0)
	}
}

func TestLoadRefusesMost(t *testing.T) {
	wrong := api.Parcel{}
	for _, most := range wrongMosts() {
		for _, l := range [][]api.Parcel{nil, someParcels(), {wrong}, make([]api.Parcel, api.MaxBag+1)} {
			b, err := bag.Load(most, l)
			wantRefusal(t, err, "Load", most, api.ErrArg)
			if b != nil {
				t.Errorf("beside %v the Bag is %v", err, b)
			}
		}
	}
}

// Too many are named ahead of wrong ones.
func TestLoadRefusesTooMany(t *testing.T) {
	for most := range 4 {
		for _, l := range [][]api.Parcel{someParcels(), make([]api.Parcel, 4)} {
			b, err := bag.Load(most, l)
			wantRefusal(t, err, "Load", 4, api.ErrArg)
			if b != nil {
				t.Errorf("beside %v the Bag is %v", err, b)
			}
		}
	}
	full := slices.Repeat([]api.Parcel{parcel(1, 0, 1, "")}, api.MaxBag)
	if b := loadBag(t, api.MaxBag, full...); b.Len() != api.MaxBag {
		t.Errorf("Len is %d", b.Len())
	}
	_, err := bag.Load(api.MaxBag, append(full, full[0]))
	wantRefusal(t, err, "Load", api.MaxBag+1, api.ErrArg)
}

func TestLoadRefusesWrongParcels(t *testing.T) {
	var wrong []api.Parcel
	for _, serial := range []int{0, -1, math.MinInt, greatestSerial + 1, math.MaxInt} {
		wrong = append(wrong, parcel(serial, 0, 1, "x"))
	}
	for _, ends := range wrongEnds() {
		wrong = append(wrong, parcel(1, ends[0], ends[1], "x"))
	}
	for _, p := range wrong {
		for i := range 4 {
			l := someParcels()
			l[i] = p
			for _, most := range []int{4, 9} {
				b, err := bag.Load(most, l)
				wantRefusal(t, err, "Load", i, api.ErrForm)
				if b != nil {
					t.Errorf("beside %v the Bag is %v", err, b)
				}
			}
			if i < 3 { // the first one is told
				l[3] = api.Parcel{}
				_, err := bag.Load(4, l)
				wantRefusal(t, err, "Load", i, api.ErrForm)
			}
		}
	}
}

func TestLoadTakesAllEnds(t *testing.T) {
	for from := range api.MaxReplicas {
		for to := range api.MaxReplicas {
			if from != to {
				wantRow(t, loadBag(t, 1, parcel(1, from, to, "x")), parcel(1, from, to, "x"))
			}
		}
	}
}

func TestSerialBehindLoad(t *testing.T) {
	for _, run := range []struct {
		serials []int
		next    int
	}{
		{nil, 1}, {[]int{1}, 2}, {[]int{7, 2}, 8}, {[]int{2, 7}, 8}, {[]int{3, 9, 9, 4}, 10},
		{[]int{greatestSerial, 1}, greatestSerial + 1}, {[]int{greatestSerial - 1}, greatestSerial},
	} {
		var l []api.Parcel
		for _, serial := range run.serials {
			l = append(l, parcel(serial, 0, 1, ""))
		}
		b := loadBag(t, 9, l...)
		wantSent(t, b, 0, 1, "", run.next)
		wantSent(t, b, 0, 1, "", run.next+1)
		b = loadBag(t, 9, l...)
		b.Clear()
		wantSent(t, b, 0, 1, "", run.next)
	}
}

func TestLoadedBagGoesOn(t *testing.T) {
	b := loadBag(t, 4, someParcels()[:3]...)
	wantSent(t, b, 1, 2, "new", 4)
	wantNotSent(t, b, 1, 2, api.ErrRoom)
	p, err := b.Deliver(1)
	wantParcel(t, p, err, someParcels()[1])
	wantOK(t, b.Double(0))
	wantRefusal(t, b.Double(0), "Double", 0, api.ErrRoom)
	wantOK(t, b.Drop(1))
	wantRow(t, b, someParcels()[0], parcel(4, 1, 2, "new"), someParcels()[0])
	wantCounts(t, b, 2, 1, 2, 1)
	b.Clear()
	wantCounts(t, b, 2, 1, 5, 1)
}
