package scan

import (
	"slices"
	"sort"

	"sapper/find"
	"sapper/suffix"
)

// patience: how many times over, in the mean, the bytes of next are gone over again ahead of all lengths being asked for together.
const patience = 16

// block: of how many ranks together the least place is kept.
const block = 1 << 12

// matches tells what find.Longest tells of next from a place on, but in two parts: how many bytes, at places that rise; and their place in old, which is dear, and wanted at few of them.
type matches struct {
	x     *suffix.Index // of old
	next  []byte
	end   int   // up to which place the last match went
	again int   // how many bytes were gone over again
	known []int // the lengths of the last places of next, as soon as they were asked for together
	array []int // of each rank the place in old, as soon as one was asked for
	least []int // of each block of ranks the least of these
}

// length: how many bytes from a place on stand anywhere in old.
func (m *matches) length(at int) int {
	left := m.next[at:]
	if m.known != nil {
		return m.known[len(m.known)-len(left)]
	}
	m.again += max(0, m.end-at)
	// Most places lie within a match and are never asked for. But where one long match after the other begins just a byte behind the last, going over each would take time by the square of next.
	if m.again > patience*len(m.next) {
		m.known, _ = find.Statistics(m.x, left)
		return m.known[0]
	}
	n := longest(m.x, left)
	m.end = at + n
	return n
}

// longest: how many bytes of p, from its front on, stand anywhere. None has more of them than the two suffixes between which p would stand, and the search comes by both.
func longest(x *suffix.Index, p []byte) int {
	out := 0
	sort.Search(x.Len(), func(rank int) bool {
		at, _ := x.At(rank)
		side, n, _ := x.Compare(at, p)
		out = max(out, n)
		return side >= 0
	})
	return out
}

// place: the least place in old of the n bytes from at on; n is what length has told there, and not 0.
func (m *matches) place(at, n int) int {
	m.lay()
	rank, end, _ := find.Range(m.x, m.next[at:at+n])
	out := m.array[rank]
	// Short texts may stand at nearly all places: going over each of them, at each step, would take time by the square, too.
	for rank < end {
		if rank%block == 0 && end-rank >= block {
			out = min(out, m.least[rank/block])
			rank += block
		} else {
			out = min(out, m.array[rank])
			rank++
		}
	}
	return out
}

// lay makes the lists of places, if they are not there.
func (m *matches) lay() {
	if m.array != nil {
		return
	}
	m.array = m.x.Array()
	for part := range slices.Chunk(m.array, block) {
		m.least = append(m.least, slices.Min(part))
	}
}
