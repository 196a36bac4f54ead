package find_test

import (
	"bytes"

	"sapper/find"
)

// The chapter's words, one by one, however long they take.

// stands: does p stand at that place?
func stands(d, p []byte, at int) bool {
	return 0 <= at && at <= len(d)-len(p) && bytes.Equal(d[at:at+len(p)], p)
}

// anywhere: does p stand in the data at all?
func anywhere(d, p []byte) bool {
	for at := range len(d) + 1 {
		if stands(d, p, at) {
			return true
		}
	}
	return false
}

// rangeOf: how many suffixes are less than p, and how many are less or begin with it.
func rangeOf(d, p []byte) (int, int) {
	lo, hi := 0, 0
	for at := range d {
		if bytes.Compare(d[at:], p) < 0 {
			lo++
			hi++
		} else if stands(d, p, at) {
			hi++
		}
	}
	return lo, hi
}

// allOf: the places below n where p stands.
func allOf(d, p []byte) []int {
	var out []int
	for at := range d {
		if stands(d, p, at) {
			out = append(out, at)
		}
	}
	return out
}

// longestOf: the least place where the most first bytes of p stand, and how many these are: where some stand, fewer do.
func longestOf(d, p []byte) (int, int) {
	at, m := 0, 0
	for m < len(p) {
		next := bytes.Index(d, p[:m+1])
		if next < 0 {
			break
		}
		at, m = next, m+1
	}
	return at, m
}

// statisticsOf: of each place of p the most bytes from there on that stand anywhere.
func statisticsOf(d, p []byte) []int {
	out := make([]int, len(p))
	for i := range p {
		_, out[i] = longestOf(d, p[i:])
	}
	return out
}

// distinctOf: how many unlike texts of one byte or more there are.
func distinctOf(d []byte) int {
	texts := map[string]bool{}
	for at := range d {
		for end := at + 1; end <= len(d); end++ {
			texts[string(d[at:end])] = true
		}
	}
	return len(texts)
}

// isMatch: are the bytes the same, at least one, and does it go on at neither end?
func isMatch(d, p []byte, m find.Match) bool {
	o, n, k := m.Old, m.New, m.Len
	if o < 0 || n < 0 || k < 1 || o+k > len(d) || n+k > len(p) || !bytes.Equal(d[o:o+k], p[n:n+k]) {
		return false
	}
	endsAhead := o == 0 || n == 0 || d[o-1] != p[n-1]
	endsBehind := o+k == len(d) || n+k == len(p) || d[o+k] != p[n+k]
	return endsAhead && endsBehind
}

// matchesOf: all matches of least bytes or more, by New, of the same New by Old.
func matchesOf(d, p []byte, least int) []find.Match {
	var out []find.Match
	for n := range p {
		for o := range d {
			for k := least; k <= min(len(d)-o, len(p)-n); k++ {
				if m := (find.Match{Old: o, New: n, Len: k}); isMatch(d, p, m) {
					out = append(out, m)
				}
			}
		}
	}
	return out
}

// factorsOf: the row of parts, by what longestOf tells of what is left.
func factorsOf(d, p []byte) []find.Match {
	var out []find.Match
	for at := 0; at < len(p); {
		old, m := longestOf(d, p[at:])
		if m == 0 {
			out = append(out, find.Match{New: at})
			at++
		} else {
			out = append(out, find.Match{Old: old, New: at, Len: m})
			at += m
		}
	}
	return out
}

// fewestOf: of all rows of parts that are p, each of which stands in the data, or is one byte that does not, the fewest parts.
func fewestOf(d, p []byte) int {
	best := make([]int, len(p)+1) // of what begins at a place
	for at := len(p) - 1; at >= 0; at-- {
		best[at] = len(p) + 1
		for end := at + 1; end <= len(p); end++ {
			if anywhere(d, p[at:end]) || end == at+1 {
				best[at] = min(best[at], 1+best[end])
			}
		}
	}
	return best[0]
}
