package bag

import "barrow/api"

func isMost(most int) bool { return most >= 0 && most <= api.MaxBag }

func isReplica(r int) bool { return r >= 0 && r < api.MaxReplicas }

// areEnds: can a parcel go from the one to the other?
func areEnds(from, to int) bool { return isReplica(from) && isReplica(to) && from != to }

func isRight(p api.Parcel) bool {
	return p.Serial >= 1 && p.Serial <= greatestSerial && areEnds(p.From, p.To)
}

func (b *Bag) isFull() bool { return len(b.row) >= b.most }

func (b *Bag) isPlace(i int) bool { return i >= 0 && i < len(b.row) }

// takeOut takes a parcel out of the row; its bytes are the row's still, if it
// was doubled.
func (b *Bag) takeOut(i int) api.Parcel {
	p := b.row[i]
	// Where it was the last one, the array goes on being the row's, and must
	// not hold the bytes of what has left.
	b.row[i] = api.Parcel{}
	b.row = append(b.row[:i:i], b.row[i+1:]...)
	return p
}

func copied(raw []byte) []byte {
	c := make([]byte, len(raw))
	copy(c, raw)
	return c
}

// own is the parcel with bytes that nobody else has.
func own(p api.Parcel) api.Parcel {
	p.Bytes = copied(p.Bytes)
	return p
}

func allOwn(l []api.Parcel) []api.Parcel {
	all := make([]api.Parcel, len(l))
	for i, p := range l {
		all[i] = own(p)
	}
	return all
}
