package clock

import (
	"math"
	"strconv"
	"strings"

	"barrow/api"
	"barrow/fault"
)

// Text writes a clock down.
func Text(a api.Clock, replicas int) string {
	var words strings.Builder
	for r := range min(replicas, api.MaxReplicas) {
		if r > 0 {
			words.WriteByte('.')
		}
		words.WriteString(strconv.Itoa(a[r]))
	}
	return words.String()
}

// Parse reads a clock, and how many entries it has.
func Parse(s string) (api.Clock, int, error) {
	var a api.Clock
	at := 0
	for r := range a {
		n, length := entry(s[at:])
		a[r] = n
		at += length
		if length > 0 && at == len(s) {
			return a, r + 1, nil
		}
		if length == 0 || s[at] != '.' || r+1 == len(a) {
			break
		}
		at++
	}
	return api.Clock{}, 0, fault.New(layer, "Parse", at, api.ErrForm)
}

// entry reads the number with which s begins, and of how many digits it is.
// It stops ahead of the first byte that is no part of a right one, since that
// is the place at which Parse refuses.
func entry(s string) (n, length int) {
	for length < len(s) && goesOn(n, length, s[length]) {
		n = 10*n + int(s[length]-'0')
		length++
	}
	return n, length
}

// goesOn: may b stand behind the digits of n, of which there are so many?
func goesOn(n, length int, b byte) bool {
	if b < '0' || b > '9' {
		return false
	}
	if n == 0 && length > 0 {
		return false
	}
	return n <= (math.MaxInt-int(b-'0'))/10
}
