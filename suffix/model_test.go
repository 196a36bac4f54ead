package suffix_test

import (
	"bytes"
	"maps"
	"slices"
	"strings"

	"sapper/suffix"
)

// The chapter's words, one by one, however long they take.

// belowOf: how many suffixes, without the empty one, are less than the one at that place.
func belowOf(d []byte, at int) int {
	n := 0
	for i := range d {
		if bytes.Compare(d[i:], d[at:]) < 0 {
			n++
		}
	}
	return n
}

// arrayOf: at each rank the place of the suffix that has just so many below it.
func arrayOf(d []byte) []int {
	out := make([]int, len(d))
	for at := range d {
		out[belowOf(d, at)] = at
	}
	return out
}

// commonOf: how many bytes two texts have in common from the front on.
func commonOf(a, b []byte) int {
	n := 0
	for n < len(a) && n < len(b) && a[n] == b[n] {
		n++
	}
	return n
}

// lcpOf: of each rank what the suffix has in common with that of the rank ahead.
func lcpOf(d []byte) []int {
	array := arrayOf(d)
	out := make([]int, len(d))
	for r := 1; r < len(d); r++ {
		out[r] = commonOf(d[array[r-1]:], d[array[r]:])
	}
	return out
}

// compareOf: a suffix held against a text.
func compareOf(s, p []byte) (int, int) {
	if bytes.HasPrefix(s, p) {
		return 0, len(p)
	}
	return bytes.Compare(s, p), commonOf(s, p)
}

// textsOf: of each text of one byte or more the places where it stands, rising.
func textsOf(d []byte) map[string][]int {
	out := map[string][]int{}
	for at := range d {
		for end := at + 1; end <= len(d); end++ {
			text := string(d[at:end])
			out[text] = append(out[text], at)
		}
	}
	return out
}

// repeatOf: of the texts that stand at two places the longest, of these the least.
func repeatOf(d []byte) (int, int) {
	best, where := "", 0
	for text, places := range textsOf(d) {
		if len(places) > 1 && ahead(text, best) {
			best, where = text, places[0]
		}
	}
	return where, len(best)
}

// ahead: is a text longer than another one, or as long and less?
func ahead(a, b string) bool {
	return len(a) > len(b) || len(a) == len(b) && a < b
}

// kindsOf: the unlike texts in their order.
func kindsOf(d []byte) []string { return slices.Sorted(maps.Keys(textsOf(d))) }

// repeatsOf: the texts of so many bytes that stand at two places or more, and of which every longer one stands at fewer.
func repeatsOf(d []byte, least int) []suffix.Again {
	texts := textsOf(d)
	var out []suffix.Again
	for _, text := range slices.Sorted(maps.Keys(texts)) {
		places := texts[text]
		if len(text) >= least && len(places) > 1 && !goesOn(texts, text) {
			out = append(out, suffix.Again{At: places[0], Len: len(text), Count: len(places)})
		}
	}
	return out
}

// goesOn: does a text that is longer by one byte stand at as many places?
func goesOn(texts map[string][]int, text string) bool {
	for v := range 256 {
		one := string([]byte{byte(v)})
		if n := len(texts[text]); len(texts[one+text]) >= n || len(texts[text+one]) >= n {
			return true
		}
	}
	return false
}

// turnOf: the lasts of all rows but the whole data's, and how many rows stand ahead of that.
func turnOf(d []byte) ([]byte, int) {
	rows := make([]string, len(d)+1)
	for i := range rows {
		rows[i] = string(d[i:])
	}
	slices.Sort(rows)
	var lasts []byte
	end := 0
	for r, s := range rows {
		if len(s) == len(d) {
			end = r
		} else {
			lasts = append(lasts, d[len(d)-len(s)-1])
		}
	}
	return lasts, end
}

// sharedOf: of the texts that stand in both the longest, of these the least.
func sharedOf(a, b []byte) (int, int, int) {
	best := ""
	for at := range a {
		for end := at + 1; end <= len(a); end++ {
			if text := string(a[at:end]); ahead(text, best) && strings.Contains(string(b), text) {
				best = text
			}
		}
	}
	return strings.Index(string(a), best), strings.Index(string(b), best), len(best)
}

// inOrder: is the row all suffixes but the empty one, each less than the next one? By ranks, so that long data can be asked, too.
func inOrder(d []byte, row []int) bool {
	n := len(d)
	if len(row) != n {
		return false
	}
	rank := make([]int, n+1)
	for r, i := range row {
		if i < 0 || i >= n || rank[i] != 0 {
			return false
		}
		rank[i] = r + 1 // the empty suffix keeps 0
	}
	for r := 1; r < n; r++ {
		a, b := row[r-1], row[r]
		if d[a] > d[b] || d[a] == d[b] && rank[a+1] > rank[b+1] {
			return false
		}
	}
	return true
}
