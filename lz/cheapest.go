package lz

import (
	"math/bits"

	"sapper/api"
)

// maxPrice: the most that a price may be.
const maxPrice = 1 << 20

// priced: may tokens cost so?
func priced(c api.Price) bool {
	for _, v := range []int{c.Lit, c.Match, c.Far} {
		if v < 0 || v > maxPrice {
			return false
		}
	}
	return true
}

// reach: how far a match goes; length 0: a byte. Both numbers fit 16 bits, which keeps the lists of a long text small.
type reach struct {
	length uint16
	dist   uint16
}

// forest: the places seen so far. Those from which on the same three bytes stand are a tree, to whose top these bytes lead: the place last seen. Below each place stand places further ahead alone, those whose bytes are less on one side, and those whose bytes are greater on the other. So on the way down to where a place belongs each length is met at its least distance first, and most of the places that have no more than those met are never looked at.
type forest struct {
	data   []byte
	window int
	top    map[[api.MinMatch]byte]int
	below  []int // of place p: at 2p the top of those that are less, at 2p+1 of those that are greater
}

// newForest: one that has seen no place.
func newForest(data []byte, window int) *forest {
	return &forest{data: data, window: window, top: map[[api.MinMatch]byte]int{}, below: make([]int, 2*len(data))}
}

// plant: a place becomes the top of its tree; the place that was.
func (f *forest) plant(at int) int {
	bytes := key(f.data, at)
	p, ok := f.top[bytes]
	f.top[bytes] = at
	if !ok {
		return none
	}
	return p
}

// see: one more place; the matches there, each longer and further away than the one ahead of it, are put behind the list.
func (f *forest) see(at int, list []reach) []reach {
	limit := min(api.MaxMatch, len(f.data)-at)
	if limit < api.MinMatch {
		return list
	}
	p := f.plant(at)
	// The old tree is split on the way down: less and more are where the next part of either side is hung, and the bytes in common with what was hung last on a side are those that all between have.
	less, more := 2*at, 2*at+1
	lessLen, moreLen := api.MinMatch, api.MinMatch
	most := api.MinMatch - 1
	for p != none && at-p <= f.window {
		n := same(f.data, p, at, min(lessLen, moreLen), limit)
		if n > most {
			most = n
			list = append(list, reach{length: uint16(n), dist: uint16(at - p)})
		}
		if n == limit {
			// From now on this place stands for that one: no match with it can be longer.
			f.below[less], f.below[more] = f.below[2*p], f.below[2*p+1]
			return list
		}
		if f.data[p+n] < f.data[at+n] {
			f.below[less] = p
			less, lessLen = 2*p+1, n
			p = f.below[less]
		} else {
			f.below[more] = p
			more, moreLen = 2*p, n
			p = f.below[more]
		}
	}
	f.below[less], f.below[more] = none, none
	return list
}

// field: the matches of all places, one place behind the other.
type field struct {
	list []reach
	ends []int // of each place: where in the list its matches end
}

// at: the matches of a place.
func (f field) at(place int) []reach {
	first := 0
	if place > 0 {
		first = f.ends[place-1]
	}
	return f.list[first:f.ends[place]]
}

// matches: the matches of each place, of each length the nearest one, as far as it is the longest at its distance.
func matches(data []byte, window int) field {
	trees := newForest(data, window)
	f := field{ends: make([]int, len(data))}
	for at := range data {
		f.list = trees.see(at, f.list)
		f.ends[at] = len(f.list)
	}
	return f
}

// plan: the first of the cheapest tokens from each place on, and what all of them cost from the front on.
func plan(data []byte, window int, c api.Price) ([]reach, int) {
	f := matches(data, window)
	steps := make([]reach, len(data))
	costs := make([]int, len(data)+1)
	for at := len(data) - 1; at >= 0; at-- {
		steps[at], costs[at] = cheapest(f.at(at), costs[at:], c)
	}
	return steps, costs[0]
}

// cheapest: the first token at a place with these matches, and what it and all behind it cost; costs has what is paid from the places behind on.
func cheapest(matches []reach, costs []int, c api.Price) (reach, int) {
	// The byte first, then the matches from the longest on: of what costs the same the first one stays.
	best, least := reach{}, c.Lit+costs[1]
	for i := len(matches) - 1; i >= 0; i-- {
		m := matches[i]
		shorter := uint16(api.MinMatch - 1)
		if i > 0 {
			shorter = matches[i-1].length
		}
		price := c.Match + c.Far*bits.Len16(m.dist)
		for ; m.length > shorter; m.length-- {
			if cost := price + costs[m.length]; cost < least {
				best, least = m, cost
			}
		}
	}
	return best, least
}
