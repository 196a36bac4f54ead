package lz

import "sapper/api"

// none: no place.
const none = -1

// key: the three bytes from a place on.
func key(data []byte, at int) [api.MinMatch]byte {
	return [api.MinMatch]byte{data[at], data[at+1], data[at+2]}
}

// same: how many bytes from two places on are the same, n of them being known to be, at most limit.
func same(data []byte, one, other, n, limit int) int {
	for n < limit && data[one+n] == data[other+n] {
		n++
	}
	return n
}

// chain: the places seen so far; three bytes lead to the place where they were seen last, and each place to the one ahead with the same three.
type chain struct {
	data  []byte
	look  api.Look
	last  map[[api.MinMatch]byte]int
	ahead []int // of the places seen, in order
}

// newChain: one that has seen no place.
func newChain(data []byte, k api.Look) *chain {
	return &chain{data: data, look: k, last: map[[api.MinMatch]byte]int{}}
}

// lastSeen: the last place seen from which on these bytes stand.
func (c *chain) lastSeen(bytes [api.MinMatch]byte) int {
	if p, ok := c.last[bytes]; ok {
		return p
	}
	return none
}

// see: all places ahead of this one are seen.
func (c *chain) see(at int) {
	for p := len(c.ahead); p < at; p++ {
		bytes := key(c.data, p)
		c.ahead = append(c.ahead, c.lastSeen(bytes))
		c.last[bytes] = p
	}
}

// best: the greatest number of bytes that a candidate has in common with a place, and the distance of the nearest with it. Places are asked for in rising order, or over again.
func (c *chain) best(at int) (int, int) {
	limit := min(api.MaxMatch, len(c.data)-at)
	if limit < api.MinMatch {
		return 0, 0
	}
	c.see(at)
	most, dist := 0, 0
	p := c.lastSeen(key(c.data, at))
	// No candidate has more than the limit, and of several that have it the nearest is told.
	for left := c.look.Chain; left > 0 && p != none && at-p <= c.look.Window && most < limit; left-- {
		// Without that byte it would have no more than the best one.
		if c.data[p+most] == c.data[at+most] {
			if n := same(c.data, p, at, api.MinMatch, limit); n > most {
				most, dist = n, at-p
			}
		}
		p = c.ahead[p]
	}
	return most, dist
}
