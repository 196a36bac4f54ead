package find

import (
	"slices"

	"sapper/api"
	"sapper/suffix"
)

// Longest: the longest beginning of p that stands anywhere: its least place, and how many bytes.
func Longest(x *suffix.Index, p []byte) (int, int, api.Errno) {
	if !made(x) {
		return 0, 0, api.ErrMade
	}
	lo, hi, m := longest(x, p)
	if m == 0 {
		return 0, 0, api.OK
	}
	return least(x, lo, hi), m, api.OK
}

// longest: how many bytes of p, from its front on, stand anywhere, and the ranks of the suffixes that begin with them.
func longest(x *suffix.Index, p []byte) (int, int, int) {
	n := nearOf(x, begin(x, 0, x.Len(), p), p, near{})
	m := n.most()
	return begin(x, 0, n.rank, p[:m]), end(x, n.rank, x.Len(), p[:m]), m
}

// least: the least place of the suffixes of these ranks, of which there is one at least.
func least(x *suffix.Index, lo, hi int) int {
	out, _ := x.At(lo)
	// Places are asked from the first on at the same time: where there are many ranks, one of them is mostly met soon.
	for i := range hi - lo {
		if rank, _ := x.Rank(i); lo <= rank && rank < hi {
			return i
		}
		at, _ := x.At(lo + i)
		out = min(out, at)
	}
	return out
}

// Factors: a text as a row of longest parts that stand in the bytes.
func Factors(x *suffix.Index, p []byte) ([]Match, api.Errno) {
	if !made(x) {
		return nil, api.ErrMade
	}
	places := leasts{x: x}
	var out []Match
	for at := 0; at < len(p); {
		lo, hi, m := longest(x, p[at:])
		part := Match{New: at, Len: m}
		if m > 0 {
			part.Old = places.least(lo, hi)
		}
		out = append(out, part)
		at += max(1, m)
	}
	return out, api.OK
}

// fan: of how many numbers of one row a number of the next one is the least.
const fan = 16

// leasts tells the least places of ranks over and over.
type leasts struct {
	x      *suffix.Index
	walked int     // ranks that were gone over one by one
	rows   [][]int // the array, and the least of each fan numbers of the row ahead, up to a row that is short
}

// least: as the function of that name. The rows are made as soon as going over the ranks has cost as much as they do: many calls of few ranks never need them.
func (l *leasts) least(lo, hi int) int {
	if l.rows == nil {
		l.walked += hi - lo
		if l.walked <= l.x.Len() {
			return least(l.x, lo, hi)
		}
		l.rows = rowsOf(l.x.Array())
	}
	out := l.rows[0][lo]
	for _, row := range l.rows {
		for ; lo < hi && lo%fan != 0; lo++ {
			out = min(out, row[lo])
		}
		for ; lo < hi && hi%fan != 0; hi-- {
			out = min(out, row[hi-1])
		}
		lo, hi = lo/fan, hi/fan
	}
	return out
}

// rowsOf: the rows over an array. One that is shorter than fan is always gone over whole, and needs none over it.
func rowsOf(array []int) [][]int {
	out := [][]int{array}
	for row := array; len(row) >= fan; {
		next := make([]int, len(row)/fan)
		for i := range next {
			next[i] = slices.Min(row[i*fan : (i+1)*fan])
		}
		out = append(out, next)
		row = next
	}
	return out
}
