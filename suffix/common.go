package suffix

import "sapper/api"

// same: how many bytes two texts have in common from the front on, of which so many are known.
func same(a, b []byte, known int) int {
	most := min(len(a), len(b))
	for known < most && a[known] == b[known] {
		known++
	}
	return known
}

// Lcp: of each rank, how many bytes the suffix has in common with the one ahead.
func (x *Index) Lcp() []int {
	if !x.made() {
		return nil
	}
	out := make([]int, len(x.data))
	n := 0
	for at := range len(x.data) {
		rank := x.rank(at)
		if rank == 0 {
			n = 0
			continue
		}
		// The two that had n in common at the place ahead have, without their first byte, one less, and stand in the same order; none between them has less.
		n = same(x.data[at:], x.data[x.array[rank-1]:], max(0, n-1))
		out[rank] = n
	}
	return out
}

// Common: how many bytes two suffixes have in common.
func (x *Index) Common(i, k int) (int, api.Errno) {
	if err := x.refusal(i, k); err != api.OK {
		return 0, err
	}
	return same(x.data[i:], x.data[k:], 0), api.OK
}

// Compare: a suffix and some bytes: -1, 0 (it begins with them), 1; and how many bytes they have in common.
func (x *Index) Compare(at int, p []byte) (int, int, api.Errno) {
	if err := x.refusal(at); err != api.OK {
		return 0, 0, err
	}
	s := x.data[at:]
	n := same(s, p, 0)
	if n == len(p) {
		return 0, n, api.OK
	}
	if n == len(s) || s[n] < p[n] {
		return -1, n, api.OK
	}
	return 1, n, api.OK
}

// span: the ranks, up to the second one, whose suffixes have the first n bytes, 1 or more, of the one of this rank; by what neighbours have in common.
func span(lcp []int, rank, n int) (int, int) {
	lo, hi := rank, rank+1
	for lcp[lo] >= n {
		lo--
	}
	for hi < len(lcp) && lcp[hi] >= n {
		hi++
	}
	return lo, hi
}
