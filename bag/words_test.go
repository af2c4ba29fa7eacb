package bag_test

import (
	"slices"

	"barrow/api"
)

// A plainBag does what the chapter says, sentence by sentence, on a list that is
// made anew at each step.
type plainBag struct {
	most, next                      int
	list                            []api.Parcel
	sent, arrived, dropped, doubled int
}

func plainReplica(r int) bool { return slices.Contains([]int{0, 1, 2, 3, 4, 5, 6, 7}, r) }

func plainEnds(from, to int) bool { return plainReplica(from) && plainReplica(to) && from != to }

func (b *plainBag) send(from, to int, raw []byte) (int, error) {
	switch {
	case !plainEnds(from, to):
		return 0, api.ErrArg
	case len(b.list) == b.most:
		b.sent, b.dropped = b.sent+1, b.dropped+1
		return 0, api.ErrRoom
	}
	serial := b.next
	b.next, b.sent = b.next+1, b.sent+1
	b.list = slices.Concat(b.list, []api.Parcel{parcel(serial, from, to, string(raw))})
	return serial, nil
}

func (b *plainBag) inRange(i int) bool { return 0 <= i && i < len(b.list) }

func (b *plainBag) leave(i int) (api.Parcel, error) {
	if !b.inRange(i) {
		return api.Parcel{}, api.ErrRange
	}
	p := b.list[i]
	b.list = slices.Concat(b.list[:i], b.list[i+1:])
	return p, nil
}

func (b *plainBag) deliver(i int) (api.Parcel, error) {
	p, err := b.leave(i)
	if err == nil {
		b.arrived++
	}
	return p, err
}

func (b *plainBag) drop(i int) error {
	_, err := b.leave(i)
	if err == nil {
		b.dropped++
	}
	return err
}

func (b *plainBag) double(i int) error {
	switch {
	case !b.inRange(i):
		return api.ErrRange
	case len(b.list) == b.most:
		return api.ErrRoom
	}
	p := b.list[i]
	b.list = slices.Concat(b.list, []api.Parcel{parcel(p.Serial, p.From, p.To, string(p.Bytes))})
	b.doubled++
	return nil
}

// swap also tells the place that is out of range.
func (b *plainBag) swap(i, j int) (int, error) {
	if !b.inRange(i) {
		return i, api.ErrRange
	}
	if !b.inRange(j) {
		return j, api.ErrRange
	}
	list := slices.Clone(b.list)
	list[i], list[j] = b.list[j], b.list[i]
	b.list = list
	return 0, nil
}

func (b *plainBag) clear() {
	b.dropped += len(b.list)
	b.list = nil
}

// plainLoad also tells the place of the refusal.
func plainLoad(most int, l []api.Parcel) (*plainBag, int, error) {
	if most < 0 || most > 4096 {
		return nil, most, api.ErrArg
	}
	if len(l) > most {
		return nil, len(l), api.ErrArg
	}
	next := 1
	for i, p := range l {
		if p.Serial < 1 || p.Serial > 1<<62 || !plainEnds(p.From, p.To) {
			return nil, i, api.ErrForm
		}
		next = max(next, p.Serial+1)
	}
	return &plainBag{most: most, next: next, list: slices.Clone(l)}, 0, nil
}
