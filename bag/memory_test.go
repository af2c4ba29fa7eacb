package bag_test

import (
	"runtime"
	"slices"
	"testing"

	"barrow/api"
	"barrow/bag"
)

// scrawl writes over bytes, their spare room too.
func scrawl(raw []byte) {
	raw = raw[:cap(raw)]
	for i := range raw {
		raw[i] ^= 0xff
	}
}

// scrawlAll writes over parcels, their spare room too.
func scrawlAll(l []api.Parcel) {
	for _, p := range l {
		scrawl(p.Bytes)
	}
	l = l[:cap(l)]
	for i := range l {
		l[i] = parcel(99, 99, 99, "other")
	}
}

// roomy is a text as bytes with spare room.
func roomy(text string) []byte {
	return append(make([]byte, 0, len(text)+8), text...)
}

// R2: what is handed in is neither changed nor kept.

func TestSendKeepsNoBytes(t *testing.T) {
	b := newBag(t, 3)
	raw := roomy("one")
	spare := raw[:cap(raw)]
	before := slices.Clone(spare)
	b.Send(0, 1, raw)
	b.Send(1, 0, raw)
	b.Double(0)
	b.Deliver(0)
	if !slices.Equal(spare, before) {
		t.Errorf("Send has changed its bytes to %q", spare)
	}
	scrawl(raw)
	wantRow(t, b, parcel(2, 1, 0, "one"), parcel(1, 0, 1, "one"))
}

func TestLoadKeepsNoParcels(t *testing.T) {
	l := append(make([]api.Parcel, 0, 9), someParcels()...)
	for i := range l {
		l[i].Bytes = roomy(string(l[i].Bytes))
	}
	b := loadBag(t, 9, l...)
	b.Send(0, 1, []byte("five"))
	b.Swap(0, 3)
	b.Drop(1)
	if !slices.EqualFunc(l, someParcels(), same) || !same(l[:5][4], api.Parcel{}) {
		t.Errorf("Load's list was changed to %v", l[:5])
	}
	scrawlAll(l)
	wantRow(t, b, append(picked(someParcels(), 3, 2, 0), parcel(5, 0, 1, "five"))...)
}

// Two parcels of one list may share their bytes.
func TestLoadOfSharedBytes(t *testing.T) {
	raw := roomy("shared")
	l := []api.Parcel{{Serial: 1, From: 0, To: 1, Bytes: raw[:3]}, {Serial: 1, From: 0, To: 1, Bytes: raw[:3]}}
	b := loadBag(t, 2, l...)
	p, _ := b.Deliver(0)
	scrawl(p.Bytes)
	scrawl(raw)
	wantRow(t, b, parcel(1, 0, 1, "sha"))
}

// R2: what is answered is new memory.

func TestAnswersAreTheCallersOwn(t *testing.T) {
	b, l := some(t, 6), someParcels()
	b.Double(0)
	want := picked(l, 0, 1, 2, 3, 0)
	for i := range want {
		p, _ := b.Look(i)
		scrawl(p.Bytes)
		wantRow(t, b, want...)
	}
	scrawlAll(b.All())
	wantRow(t, b, want...)
	places := b.To(1)
	for i := range places[:cap(places)] {
		places[:cap(places)][i] = 77
	}
	wantRow(t, b, want...)
}

func TestDeliveredIsTheCallersOwn(t *testing.T) {
	b, l := some(t, 6), someParcels()
	b.Double(0)
	b.Double(0)
	first, _ := b.Deliver(0)
	scrawl(first.Bytes)
	wantRow(t, b, picked(l, 1, 2, 3, 0, 0)...)
	second, err := b.Deliver(3)
	wantParcel(t, second, err, l[0])
	scrawl(second.Bytes)
	third, err := b.Deliver(3)
	wantParcel(t, third, err, l[0])
	wantRow(t, b, picked(l, 1, 2, 3)...)
}

// The row may change behind an answer: that stays.
func TestAnswersStay(t *testing.T) {
	b, l := some(t, 6), someParcels()
	all, places := b.All(), b.To(1)
	looked, _ := b.Look(3)
	b.Swap(0, 3)
	b.Drop(1)
	b.Send(0, 1, []byte("five"))
	delivered, _ := b.Deliver(0)
	b.Clear()
	b.Send(0, 1, []byte("six"))
	if !slices.EqualFunc(all, l, same) || !slices.Equal(places, []int{0, 3}) {
		t.Errorf("All is %v, To(1) %v by now", all, places)
	}
	if !same(looked, l[3]) || !same(delivered, l[3]) {
		t.Errorf("the parcels are %v and %v by now", looked, delivered)
	}
}

func TestParcelsOfAllShareNothing(t *testing.T) {
	b := newBag(t, 4)
	b.Send(0, 1, []byte("same"))
	b.Double(0)
	b.Double(0)
	all := b.All()
	scrawl(all[1].Bytes)
	if string(all[0].Bytes) != "same" || string(all[2].Bytes) != "same" {
		t.Errorf("All is %v", all)
	}
}

const great = 1 << 24

// heapBehind is how many bytes more are in use behind a call than ahead of it.
func heapBehind(call func()) int64 {
	var ahead, behind runtime.MemStats
	runtime.GC()
	runtime.ReadMemStats(&ahead)
	call()
	runtime.GC()
	runtime.ReadMemStats(&behind)
	return int64(behind.HeapAlloc) - int64(ahead.HeapAlloc)
}

// A parcel that comes often costs its bytes once: else few great ones would fill
// the memory.
func TestDoubledParcelsShareTheirBytes(t *testing.T) {
	b := newBag(t, 9)
	more := heapBehind(func() {
		b.Send(0, 1, make([]byte, great))
		for range 8 {
			wantOK(t, b.Double(0))
		}
	})
	if more > 2*great {
		t.Errorf("9 parcels of %d bytes cost %d", great, more)
	}
	wantCounts(t, b, 1, 0, 0, 8)
}

// No more is kept than is under way.
func TestWhatLeftIsNotKept(t *testing.T) {
	for name, leave := range map[string]func(b *bag.Bag){
		"dropped":   func(b *bag.Bag) { b.Drop(1) },
		"delivered": func(b *bag.Bag) { b.Deliver(1) },
		"cleared":   func(b *bag.Bag) { b.Clear() },
	} {
		b := newBag(t, 9)
		more := heapBehind(func() {
			b.Send(0, 1, nil)
			b.Send(0, 1, make([]byte, great))
			leave(b)
		})
		if more > great/2 {
			t.Errorf("%s: %d bytes more are in use", name, more)
		}
		wantSent(t, b, 0, 1, "", 3)
	}
}

// R4: bags know nothing of each other.
func TestBagsAreApart(t *testing.T) {
	a, b := some(t, 4), newBag(t, 4)
	wantSent(t, b, 0, 1, "other", 1)
	a.Clear()
	wantRow(t, b, parcel(1, 0, 1, "other"))
	wantCounts(t, b, 1, 0, 0, 0)
	c, _ := bag.Load(4, b.All())
	c.Drop(0)
	wantRow(t, b, parcel(1, 0, 1, "other"))
	wantCounts(t, b, 1, 0, 0, 0)
}
