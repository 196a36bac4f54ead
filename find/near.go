package find

import (
	"iter"
	"slices"

	"sapper/api"
	"sapper/suffix"
)

// Statistics: of each place of p how many bytes from there on stand anywhere.
func Statistics(x *suffix.Index, p []byte) ([]int, api.Errno) {
	if !made(x) {
		return nil, api.ErrMade
	}
	out := make([]int, len(p))
	for at, n := range nears(x, p) {
		out[at] = n.most()
	}
	return out, api.OK
}

// Distinct: how many unlike texts stand in the bytes.
func Distinct(x *suffix.Index) (int, api.Errno) {
	if !made(x) {
		return 0, api.ErrMade
	}
	n := x.Len()
	total := n * (n + 1) / 2
	// A suffix begins with as many texts as it has bytes; those that the one ahead begins with, too, were counted there.
	for _, known := range x.Lcp() {
		total -= known
	}
	return total, api.OK
}

// near: where a text would stand among the suffixes: how many are less, and how many bytes it has in common with the last of these, and with the one behind it. None has more in common with it.
type near struct{ rank, below, above int }

// most: how many bytes of the text, from its front on, stand anywhere.
func (n near) most() int { return max(n.below, n.above) }

// nearOf: where p would stand, if so many suffixes are less; last: where it would stand with one byte more ahead of it.
func nearOf(x *suffix.Index, rank int, p []byte, last near) near {
	// Without their first byte a suffix and a text have one less in common and stand to each other as they did; what comes between them has no less.
	return near{rank, common(x, rank-1, p, last.below-1), common(x, rank, p, last.above-1)}
}

// common: how many bytes the suffix of that rank, if there is one, has in common with p, of which so many are known.
func common(x *suffix.Index, rank int, p []byte, known int) int {
	at, err := x.At(rank)
	if err != api.OK {
		return 0
	}
	known = max(0, known)
	_, more, _ := x.Compare(at+known, p[known:]) // none, if the suffix ends there
	return known + more
}

// nears: of each place of p, from the first on, where what begins there would stand.
func nears(x *suffix.Index, p []byte) iter.Seq2[int, near] {
	return func(yield func(int, near) bool) {
		var last near
		for at, rank := range less(x, p) {
			last = nearOf(x, rank, p[at:], last)
			if !yield(at, last) {
				return
			}
		}
	}
}

// less: of each place of p how many suffixes of the index are less than what begins there.
func less(x *suffix.Index, p []byte) []int {
	starts := buckets(x)
	// Of those that begin with one byte just those are less which are so behind it, and these stand first.
	ahead := func(rank, than int) bool { return behind(x, rank) < than }
	out := make([]int, len(p))
	than := empty
	for at, v := range slices.Backward(p) {
		than = bound(starts[v], starts[int(v)+1], than, ahead)
		out[at] = than
	}
	return out
}

// empty: the rank of the empty suffix, which is less than all others.
const empty = -1

// behind: of the suffix of a rank the rank of what stands behind its first byte.
func behind(x *suffix.Index, rank int) int {
	at, _ := x.At(rank)
	next, err := x.Rank(at + 1)
	if err != api.OK {
		return empty
	}
	return next
}

// buckets: of each byte the first rank whose suffix does not begin with a lesser one; and at last how many ranks there are.
func buckets(x *suffix.Index) [257]int {
	var out [257]int
	for v := range 256 {
		out[v+1] = end(x, out[v], x.Len(), []byte{byte(v)})
	}
	return out
}
