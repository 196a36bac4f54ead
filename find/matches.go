package find

import (
	"cmp"
	"slices"

	"sapper/api"
	"sapper/suffix"
)

// Match is bytes that stand in both: from Old on in the bytes of an index, from New on in a text.
type Match struct {
	Old int
	New int
	Len int
}

// Matches: the first so many of the matches that go on at neither end and have at least so many bytes.
func Matches(x *suffix.Index, p []byte, least, most int) ([]Match, api.Errno) {
	if !made(x) {
		return nil, api.ErrMade
	}
	if least < 1 || most < 0 || most > api.MaxImage {
		return nil, api.ErrArg
	}
	if most == 0 || least > min(x.Len(), len(p)) {
		return nil, api.OK
	}
	down, up := ways(x)
	var out []Match
	for at, n := range nears(x, p) {
		from := len(out)
		here := spot{at, byteAhead(p, at, newBegin)}
		out = down.matches(out, n.rank-1, n.below, least, here)
		out = up.matches(out, n.rank, n.above, least, here)
		slices.SortFunc(out[from:], func(a, b Match) int { return cmp.Compare(a.Old, b.Old) })
		if len(out) >= most {
			return out[:most], api.OK
		}
	}
	return out, api.OK
}

// spot: a place of the text, and what stands ahead of it.
type spot struct{ at, ahead int }

// What stands ahead of a place at the begin: unlike all bytes, and unlike each other.
const (
	oldBegin = -1
	newBegin = -2
)

// byteAhead: the byte ahead of a place; at the begin what stands for it.
func byteAhead(b []byte, at, begin int) int {
	if at == 0 {
		return begin
	}
	return int(b[at-1])
}

// hop: from a rank to the next one, one way, that has another byte ahead of its suffix, and the least of what neighbours up to there have in common.
type hop struct{ to, low int32 }

// way is the ranks, gone over upward or downward.
type way struct {
	x     *suffix.Index
	ahead func(rank int) int // the byte ahead of the suffix
	step  int                // 1 or -1
	low   []int              // of each rank what its suffix has in common with that of the next one; 0, if there is none
	hops  []hop
}

// ways: downward and upward.
func ways(x *suffix.Index) (*way, *way) {
	data, low := x.Data(), append(x.Lcp(), 0)
	ahead := func(rank int) int {
		at, _ := x.At(rank)
		return byteAhead(data, at, oldBegin)
	}
	n := x.Len()
	down := &way{x: x, ahead: ahead, step: -1, low: low[:n]}
	up := &way{x: x, ahead: ahead, step: 1, low: low[1:]}
	down.link(0)
	up.link(n - 1)
	return down, up
}

// link: the hops are made, from the last rank of the way back, so that one can lead on as the next one does.
func (w *way) link(last int) {
	w.hops = make([]hop, len(w.low))
	rank := last
	for range w.hops {
		next := rank + w.step
		h := hop{int32(next), int32(w.low[rank])}
		if h.low > 0 && w.ahead(rank) == w.ahead(next) {
			h = hop{w.hops[next].to, min(h.low, w.hops[next].low)}
		}
		w.hops[rank] = h
		rank -= w.step
	}
}

// matches: out, and those, of least bytes or more, of what begins at a spot of the text with the suffix of this rank, which has n bytes in common with it, and with those behind it on the way.
func (w *way) matches(out []Match, rank, n, least int, here spot) []Match {
	for n >= least {
		if w.ahead(rank) == here.ahead {
			// These go on ahead; each hop leads to one that does not, so that going over many costs no more than what is found.
			h := w.hops[rank]
			rank, n = int(h.to), min(n, int(h.low))
			continue
		}
		at, _ := w.x.At(rank)
		out = append(out, Match{Old: at, New: here.at, Len: n})
		n = min(n, w.low[rank])
		rank += w.step
	}
	return out
}
