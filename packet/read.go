package packet

import (
	"barrow/api"
	"barrow/scan"
)

// message reads one, in the order of its bytes.
func message(r *scan.Reader) (m api.Message) {
	m.Kind = r.Byte(api.Acts, api.State)
	m.From = r.Number(lastReplica)
	m.Epoch = r.Number(greatest)
	switch m.Kind {
	case api.Acts:
		m.Acts = r.Acts()
	case api.Digest:
		m.Clock = r.Clock()
	case api.Reply:
		m.Acts = r.Acts()
		fallthrough
	case api.State:
		m.Rounds = r.Rounds()
	}
	return m
}
