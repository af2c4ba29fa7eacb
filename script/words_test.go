package script_test

import (
	"math/big"
	"slices"
	"strconv"
	"strings"

	"barrow/api"
)

// The chapter's words, read plainly: a byte is looked for by what it means, and
// each rule is asked as it stands.

// plainNames are the kinds in their order.
const plainNames = "insert erase undo redo rewrite cursor propose sync deliver drop double swap fair reload"

func plainName(kind int) string {
	for k, name := range strings.Fields(plainNames) {
		if k == kind {
			return name
		}
	}
	return ""
}

func plainHasText(kind int) bool {
	return plainName(kind) == "insert" || plainName(kind) == "rewrite"
}

func plainChar(c byte) string {
	if c <= 207 {
		a := int(c) % 26
		return "abcdefghijklmnopqrstuvwxyz"[a : a+1]
	}
	if c <= 223 {
		return "\x0a"
	}
	if c <= 239 {
		return "\u00e9"
	}
	return "\u4e16"
}

// plainRead takes the bytes one by one.
func plainRead(raw []byte) []api.Step {
	next := func() int {
		if len(raw) == 0 {
			return 0
		}
		b := raw[0]
		raw = raw[1:]
		return int(b)
	}
	var l []api.Step
	for len(raw) > 0 {
		kind := next() % 14
		s := api.Step{Kind: kind, A: next(), B: next(), C: next()}
		if plainHasText(kind) {
			for n := next() % 16; n > 0 && len(raw) > 0; n-- {
				s.Text += plainChar(byte(next()))
			}
		}
		l = append(l, s)
	}
	return l
}

// plainByte is the least byte that means a character, or -1.
func plainByte(c string) int {
	for b := range 256 {
		if plainChar(byte(b)) == c {
			return b
		}
	}
	return -1
}

// plainChars are a text's characters, and what is none by itself.
func plainChars(s string) []string { return strings.Split(s, "") }

func plainPlain(s api.Step) bool {
	for _, n := range []int{s.A, s.B, s.C} {
		if n < 0 || n > 255 {
			return false
		}
	}
	if s.Kind < 0 || s.Kind > 13 || !plainHasText(s.Kind) && s.Text != "" {
		return false
	}
	chars := plainChars(s.Text)
	return len(chars) <= 15 && !slices.ContainsFunc(chars, func(c string) bool { return plainByte(c) < 0 })
}

func plainWrite(l []api.Step) []byte {
	var raw []byte
	for _, s := range l {
		if !plainPlain(s) {
			continue
		}
		raw = append(raw, byte(s.Kind), byte(s.A), byte(s.B), byte(s.C))
		if plainHasText(s.Kind) {
			chars := plainChars(s.Text)
			raw = append(raw, byte(len(chars)))
			for _, c := range chars {
				raw = append(raw, byte(plainByte(c)))
			}
		}
	}
	return raw
}

func plainText(s api.Step) string {
	if !plainPlain(s) {
		return ""
	}
	text := plainName(s.Kind)
	for _, n := range []int{s.A, s.B, s.C} {
		text += " " + strconv.Itoa(n)
	}
	if plainHasText(s.Kind) {
		text += " " + strconv.Itoa(len(plainChars(s.Text)))
	}
	return text
}

// plainFold reckons in numbers that don't wrap round.
func plainFold(n, most int) int {
	if most < 1 {
		return 0
	}
	// Mod's answer is never below 0.
	return int(new(big.Int).Mod(big.NewInt(int64(n)), big.NewInt(int64(most))).Int64())
}
