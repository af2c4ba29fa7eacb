package image

import (
	"barrow/api"
	"barrow/scan"
)

// How many bytes wire is told that things have at least.
const (
	leastElement = 4
	leastEdit    = 1
	leastChange  = 4
	leastParcel  = 2
)

// parts reads them, in the order of their bytes.
func parts(r *scan.Reader) (p api.Parts) {
	r.Byte(mark, mark)
	p.Config = config(r)
	p.Self = number(r)
	p.Epoch = number(r)
	p.Base = scan.List(r, leastElement, element)
	p.Acts = r.Acts()
	p.Held = r.Acts()
	p.Rounds = r.Rounds()
	p.Done = scan.List(r, leastEdit, edit)
	p.Undone = scan.List(r, leastEdit, edit)
	p.Cursor = cursor(r)
	p.Out = scan.List(r, leastParcel, parcel)
	for i := range p.Out {
		p.Out[i].From = p.Self
	}
	return p
}

func config(r *scan.Reader) (c api.Config) {
	c.Replicas = number(r)
	c.Model = number(r)
	c.Batch = number(r)
	c.Buffer = number(r)
	return c
}

func number(r *scan.Reader) int { return r.Number(scan.Greatest) }

func element(r *scan.Reader) (e api.Element) {
	e.ID = id(r)
	e.Char = r.Char()
	return e
}

func id(r *scan.Reader) (id api.ID) {
	id.Epoch = number(r)
	id.Replica = number(r)
	id.Number = number(r)
	return id
}

func edit(r *scan.Reader) []api.Change { return scan.List(r, leastChange, change) }

func change(r *scan.Reader) (c api.Change) {
	c.Kind = r.Byte(api.Insert, api.Restore)
	c.ID = id(r)
	return c
}

func cursor(r *scan.Reader) (a api.Anchor) {
	a.Front = r.Byte(behind, front) == front
	if !a.Front {
		a.ID = id(r)
	}
	return a
}

func parcel(r *scan.Reader) (p api.Parcel) {
	p.To = number(r)
	p.Bytes = []byte(r.Text())
	return p
}
