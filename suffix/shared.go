package suffix

import (
	"slices"

	"sapper/api"
	"sapper/sais"
)

// match: the rank of a suffix of an index, and how many bytes another text has in common with it.
type match struct{ rank, n int }

// Shared: the longest bytes that stand in both: where in each, and how many.
func Shared(a, b []byte) (int, int, int, api.Errno) {
	if max(len(a), len(b)) > api.MaxImage {
		return 0, 0, 0, api.ErrSuffixMany
	}
	x, _ := New(a)
	all := x.matches(b)
	var best match
	for _, m := range all {
		// Of texts as long the one whose suffixes stand ahead is less.
		if m.n > best.n || m.n == best.n && m.rank < best.rank {
			best = m
		}
	}
	if best.n == 0 {
		return 0, 0, 0, api.OK
	}
	lo, hi := span(x.Lcp(), best.rank, best.n)
	inB := slices.IndexFunc(all, func(m match) bool { return m.n == best.n && lo <= m.rank && m.rank < hi })
	return slices.Min(x.array[lo:hi]), inB, best.n, api.OK
}

// matches: of each suffix of b one of the index's that has the most in common with it.
func (x *Index) matches(b []byte) []match {
	out := make([]match, len(b))
	var below, above match
	// Such a one is next to it in the order, and without their first byte two have one less in common, as in Lcp.
	for at, rank := range x.less(b) {
		below = x.match(rank-1, b[at:], below.n-1)
		above = x.match(rank, b[at:], above.n-1)
		out[at] = below
		if above.n > below.n {
			out[at] = above
		}
	}
	return out
}

// match: of the suffix of that rank, if there is one, and a text, which are known to have so many bytes in common.
func (x *Index) match(rank int, p []byte, known int) match {
	if rank < 0 || rank >= len(x.array) {
		return match{}
	}
	return match{rank, same(x.data[x.array[rank]:], p, max(0, known))}
}

// less: of each suffix of b how many of the index's are less.
func (x *Index) less(b []byte) []int {
	from, to, _ := sais.Buckets(alphabet, numbers(x.data))
	behind := make([]int, len(x.array)) // of each rank that of the suffix behind its first byte
	for rank, at := range x.array {
		behind[rank] = x.rank(at + 1)
	}
	out := make([]int, len(b))
	next := x.rank(len(x.data)) // the empty suffix of b stands where the empty one of the index does
	for back := range len(b) {
		at := len(b) - 1 - back
		v := b[at]
		// Of those that begin with one byte just those are less which are so behind it; and they rise.
		n, _ := slices.BinarySearch(behind[from[v]:to[v]], next)
		next = from[v] + n
		out[at] = next
	}
	return out
}
