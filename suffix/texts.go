package suffix

import (
	"slices"

	"sapper/api"
)

// Again is bytes that stand at several places: the least one, how many they are, and at how many places.
type Again struct {
	At    int
	Len   int
	Count int
}

// Kth: the unlike texts in their order: the one of that number.
func (x *Index) Kth(k int) ([]byte, api.Errno) {
	if !x.made() {
		return nil, api.ErrMade
	}
	if k < 0 {
		return nil, api.ErrSuffixPlace
	}
	for rank, known := range x.Lcp() {
		// A text is new where the first suffix begins with it: those that the suffix ahead begins with, too, are not.
		s := x.data[x.array[rank]:]
		fresh := len(s) - known
		if k < fresh {
			return slices.Clone(s[:known+k+1]), api.OK
		}
		k -= fresh
	}
	return nil, api.ErrSuffixPlace
}

// Repeat: the longest bytes that stand in two places: where first, and how many.
func (x *Index) Repeat() (int, int) {
	lcp := x.Lcp()
	n, rank := 0, 0
	for r, m := range lcp {
		if m > n {
			n, rank = m, r
		}
	}
	if n == 0 {
		return 0, 0
	}
	lo, hi := span(lcp, rank, n)
	return slices.Min(x.array[lo:hi]), n
}

// Repeats: what stands at several places, and can't go on at either end at all of them.
func (x *Index) Repeats(least int) ([]Again, api.Errno) {
	if !x.made() {
		return nil, api.ErrMade
	}
	if least < 1 {
		return nil, api.ErrArg
	}
	lcp := x.Lcp()
	open := []group{{}} // each but the first, the empty text's, longer than the one ahead, and begun with it
	var out []Again
	// From the last rank back: what begins at one rank is closed the longest first, so that all of it, turned about, is in order.
	for back := range len(lcp) {
		rank := len(lcp) - 1 - back
		g := x.alone(rank)
		for top := len(open) - 1; open[top].Len > lcp[rank]; top-- {
			g = open[top].with(g)
			open = open[:top]
			if g.Len >= least && g.ahead == unlike {
				out = append(out, g.Again)
			}
		}
		if top := len(open) - 1; open[top].Len == lcp[rank] {
			open[top] = open[top].with(g)
		} else {
			g.Len = lcp[rank]
			open = append(open, g)
		}
	}
	slices.Reverse(out)
	return out, api.OK
}

// unlike: there is no one byte that stands ahead at all places.
const unlike = -1

// group: suffixes that are neighbours and begin with one text, which can't go on at the end at all of them.
type group struct {
	Again
	ahead int // the byte that stands ahead of each, or unlike
}

// alone: the suffix of that rank.
func (x *Index) alone(rank int) group {
	at := x.array[rank]
	g := group{Again{At: at, Count: 1}, unlike}
	if at > 0 {
		g.ahead = int(x.data[at-1])
	}
	return g
}

// with: the group, and the suffixes of another one.
func (g group) with(h group) group {
	g.At = min(g.At, h.At)
	g.Count += h.Count
	if g.ahead != h.ahead {
		g.ahead = unlike
	}
	return g
}
