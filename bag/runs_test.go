package bag_test

import (
	"math"
	"slices"
	"testing"

	"barrow/api"
	"barrow/bag"
)

// Each row of the chapter's table; the first ones go on with one bag.
func TestRuns(t *testing.T) {
	b := newBag(t, 2)
	wantSent(t, b, 0, 1, "a", 1)
	wantSent(t, b, 0, 2, "b", 2)
	wantNotSent(t, b, 1, 0, api.ErrRoom)

	wantRefusal(t, b.Double(0), "Double", 0, api.ErrRoom)
	wantOK(t, b.Swap(0, 1))
	p, err := b.Deliver(0)
	wantParcel(t, p, err, parcel(2, 0, 2, "b"))

	wantOK(t, b.Double(0))
	wantCounts(t, b, 3, 1, 1, 1)

	if got := b.To(1); !slices.Equal(got, []int{0, 1}) {
		t.Errorf("To(1) is %v", got)
	}

	p, err = b.Look(2)
	wantNoParcel(t, p, err, "Look", 2)
	wantRefusal(t, b.Drop(-1), "Drop", -1, api.ErrRange)
	wantRefusal(t, b.Swap(0, 7), "Swap", 7, api.ErrRange)
	wantRefusal(t, b.Swap(9, 0), "Swap", 9, api.ErrRange)

	wantNotSent(t, b, 0, 0, api.ErrArg)
	wantNotSent(t, b, 8, 0, api.ErrArg)
	wantNotSent(t, b, 0, -1, api.ErrArg)
	wantRow(t, b, parcel(1, 0, 1, "a"), parcel(1, 0, 1, "a"))
	wantCounts(t, b, 3, 1, 1, 1)

	for _, most := range []int{-1, 4097} {
		_, err := bag.New(most)
		wantRefusal(t, err, "New", most, api.ErrArg)
	}

	b = loadBag(t, 3, parcel(7, 0, 1, ""), parcel(2, 0, 1, ""))
	wantSent(t, b, 0, 1, "x", 8)
}

func TestExampleNoRoomAtAll(t *testing.T) {
	b := newBag(t, 0)
	for n := 1; n <= 3; n++ {
		wantNotSent(t, b, 0, 1, api.ErrRoom)
		wantRow(t, b)
		wantCounts(t, b, n, 0, n, 0)
	}
}

func TestExampleClearOfAnEmptyBag(t *testing.T) {
	b := some(t, 4)
	for range 4 {
		b.Deliver(0)
	}
	for range 3 {
		b.Clear()
		wantRow(t, b)
		wantCounts(t, b, 4, 4, 0, 0)
	}
	b = newBag(t, 0)
	b.Clear()
	wantCounts(t, b, 0, 0, 0, 0)
}

func TestExampleTwoOfOneSerial(t *testing.T) {
	b := newBag(t, 2)
	wantSent(t, b, 3, 4, "x", 1)
	wantOK(t, b.Double(0))
	for n := 1; n <= 2; n++ {
		p, err := b.Deliver(0)
		wantParcel(t, p, err, parcel(1, 3, 4, "x"))
		wantCounts(t, b, 1, n, 0, 1)
	}
	p, err := b.Deliver(0)
	wantNoParcel(t, p, err, "Deliver", 0)
}

// R1: whatever the numbers are.
func TestNoNumberPanics(t *testing.T) {
	numbers := []int{math.MinInt, math.MinInt + 1, -1, 0, 1, 2, 7, 8, 4095, 4096, 4097, math.MaxInt - 1, math.MaxInt}
	b := some(t, 9)
	for _, i := range numbers {
		for _, j := range numbers {
			b.Send(i, j, []byte("x"))
			b.Swap(i, j)
			bag.Load(i, []api.Parcel{{Serial: j, From: i, To: j}})
		}
		bag.New(i)
		b.Look(i)
		b.Deliver(i)
		b.Drop(i)
		b.Double(i)
		b.To(i)
	}
}
