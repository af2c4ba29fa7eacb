package packet

import (
	"barrow/api"
	"barrow/scan"
)

const greatest = scan.Greatest

// isOneOf: is it one of the kinds, of which the last one is named?
func isOneOf(kind, last int) bool { return kind >= 1 && kind <= last }

func isWithin(n, most int) bool { return n >= 0 && n <= most }

// hasNoMoreThanItUses: is all else of the message zero?
func hasNoMoreThanItUses(m api.Message) bool {
	var used api.Message
	switch m.Kind {
	case api.Acts:
		used.Acts = m.Acts
	case api.Digest:
		used.Clock = m.Clock
	case api.Reply:
		used.Acts = m.Acts
		fallthrough
	case api.State:
		used.Rounds = m.Rounds
	}
	return len(m.Acts) == len(used.Acts) && m.Clock == used.Clock && m.Rounds == used.Rounds
}

func areRight(acts []api.Act) bool {
	for _, act := range acts {
		if !isOp(act.Op) || act.Number < 1 || !isRow(act.Clock, greatest) {
			return false
		}
	}
	return true
}

func isOp(op api.Op) bool {
	mostChar := 0
	if op.Kind == api.Insert {
		mostChar = api.MaxChar
	}
	return isOneOf(op.Kind, api.Restore) && isWithin(op.Replica, lastReplica) && op.At >= 0 &&
		isWithin(int(op.Char), mostChar)
}

func isRow(l row, most int) bool {
	for _, n := range l {
		if !isWithin(n, most) {
			return false
		}
	}
	return true
}

func areRounds(rounds api.Rounds) bool {
	for _, round := range rounds {
		if !isRound(round) {
			return false
		}
	}
	return true
}

func isRound(round api.Round) bool {
	if round.Number == 0 {
		return round == api.Round{}
	}
	return round.Number > 0 && isRow(round.Cut, greatest) && isRow(round.Votes, api.No) &&
		isWithin(round.Decision, api.Abort)
}
