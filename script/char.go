package script

// The characters of a Text beside the letters.
const (
	lineEnd = '\n'
	eAcute  = 0xE9
	world   = 0x4E16
)

// The first byte that means each of them; all below means letters.
const (
	lineEnds = 208
	eAcutes  = 224
	worlds   = 240
)

const letters = 26

func charOf(b byte) rune {
	switch {
	case b >= worlds:
		return world
	case b >= eAcutes:
		return eAcute
	case b >= lineEnds:
		return lineEnd
	}
	return 'a' + rune(b%letters)
}

// byteOf is the least byte that means a character, if one does.
func byteOf(c rune) (byte, bool) {
	switch {
	case 'a' <= c && c < 'a'+letters:
		return byte(c - 'a'), true
	case c == lineEnd:
		return lineEnds, true
	case c == eAcute:
		return eAcutes, true
	case c == world:
		return worlds, true
	}
	return 0, false
}
