package audit

import (
	"strings"

	"barrow/api"
)

// live are those elements of a list that are live.
func live(l []api.Element) []api.Element {
	var seen []api.Element
	for _, e := range l {
		if e.Hides <= 0 {
			seen = append(seen, e)
		}
	}
	return seen
}

// text is the Chars of elements.
func text(l []api.Element) string {
	var chars strings.Builder
	for _, e := range l {
		chars.WriteRune(e.Char)
	}
	return chars.String()
}

// Authors is how many live elements are whose.
func Authors(l []api.Element) [api.MaxReplicas]int {
	var counts [api.MaxReplicas]int
	for _, e := range live(l) {
		if r := e.ID.Replica; r >= 0 && r < len(counts) {
			counts[r]++
		}
	}
	return counts
}

// Runs are the pieces of the view by their authors.
func Runs(l []api.Element) []api.Link {
	var runs []api.Link
	for rest := live(l); len(rest) > 0; {
		author := rest[0].ID.Replica
		end := 1
		for end < len(rest) && rest[end].ID.Replica == author {
			end++
		}
		runs = append(runs, api.Link{Layer: text(rest[:end]), At: author})
		rest = rest[end:]
	}
	return runs
}
