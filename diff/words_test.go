package diff_test

import (
	"unicode/utf8"

	"barrow/api"
)

// The chapter's words, read plainly: each text is a row of characters, and each
// rule is asked as it stands.

// plainDistances is d(i, j), reckoned by what can be done first: an erase, an
// insert, or to go on where both are alike.
type plainDistances struct {
	a, b  []rune
	known map[[2]int]int
}

func (d *plainDistances) of(i, j int) int {
	if n, ok := d.known[[2]int{i, j}]; ok {
		return n
	}
	least := len(d.a) + len(d.b)
	if i == len(d.a) && j == len(d.b) {
		least = 0
	}
	if i < len(d.a) {
		least = min(least, 1+d.of(i+1, j))
	}
	if j < len(d.b) {
		least = min(least, 1+d.of(i, j+1))
	}
	if i < len(d.a) && j < len(d.b) && d.a[i] == d.b[j] {
		least = min(least, d.of(i+1, j+1))
	}
	d.known[[2]int{i, j}] = least
	return least
}

// plainWalk is P15.1 and P15.3: Distance, Edits and Common.
func plainWalk(from, to string) (int, []api.Edit, string) {
	a, b := []rune(from), []rune(to)
	d := &plainDistances{a: a, b: b, known: map[[2]int]int{}}
	var l []api.Edit
	common := ""
	open := false // the last edit may still grow
	at := func() *api.Edit { return &l[len(l)-1] }
	for i, j := 0, 0; i < len(a) || j < len(b); {
		if i < len(a) && j < len(b) && a[i] == b[j] {
			common += string(a[i])
			i, j, open = i+1, j+1, false
			continue
		}
		if !open {
			l, open = append(l, api.Edit{At: j}), true
		}
		if i < len(a) && (j == len(b) || d.of(i+1, j) <= d.of(i, j+1)) {
			at().Erase++
			i++
		} else {
			at().Insert += string(b[j])
			j++
		}
	}
	return d.of(0, 0), l, common
}

// plainApply is P15.2 and P15.3: what Apply and Invert answer, or the place and
// the reason of both their refusals.
func plainApply(a string, l []api.Edit) (text string, back []api.Edit, at int, why error) {
	if !utf8.ValidString(a) {
		return "", nil, 0, api.ErrText
	}
	for n, e := range l {
		length := utf8.RuneCountInString(a)
		if e.At < 0 || e.At > length {
			return "", nil, n, api.ErrRange
		}
		if e.Erase < 0 || e.Erase > length-e.At {
			return "", nil, n, api.ErrRange
		}
		if !utf8.ValidString(e.Insert) {
			return "", nil, n, api.ErrText
		}
		ahead, rest := cutBehind(a, e.At)
		gone, behind := cutBehind(rest, e.Erase)
		a = ahead + e.Insert + behind
		back = append([]api.Edit{{At: e.At, Erase: utf8.RuneCountInString(e.Insert), Insert: gone}}, back...)
	}
	return a, back, 0, nil
}

// cutBehind cuts a text behind n characters.
func cutBehind(s string, n int) (string, string) {
	for i := range s {
		if n == 0 {
			return s[:i], s[i:]
		}
		n--
	}
	return s, ""
}

// allTexts are all texts of up to n of those characters.
func allTexts(chars string, n int) []string {
	l := []string{""}
	for from := 0; n > 0; n-- {
		till := len(l)
		for _, s := range l[from:till] {
			for _, c := range chars {
				l = append(l, s+string(c))
			}
		}
		from = till
	}
	return l
}
