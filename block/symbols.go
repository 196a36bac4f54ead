package block

import (
	"sort"

	"sapper/api"
)

const (
	endBlock     = 256 // the symbol that ends a block
	firstLen     = 257 // the symbol of the least length
	lenSymbols   = 29
	litSymbols   = firstLen + lenSymbols
	distSymbols  = 30
	plainDists   = 32 // symbols of distances in the plain code, of which the last two stand for nothing
	plainDistLen = 5
)

// span: the values that a symbol stands for, from the least on; more bits behind its code say which.
type span struct{ least, bits int }

// lenSpans: of the symbols of lengths, from 257 on. The greatest length has a symbol of its own, so that the span ahead of it is one shorter than its bits would tell.
func lenSpans() [lenSymbols]span {
	return [...]span{
		{3, 0}, {4, 0}, {5, 0}, {6, 0}, {7, 0}, {8, 0}, {9, 0}, {10, 0},
		{11, 1}, {13, 1}, {15, 1}, {17, 1},
		{19, 2}, {23, 2}, {27, 2}, {31, 2},
		{35, 3}, {43, 3}, {51, 3}, {59, 3},
		{67, 4}, {83, 4}, {99, 4}, {115, 4},
		{131, 5}, {163, 5}, {195, 5}, {227, 5},
		{api.MaxMatch, 0},
	}
}

// distSpans: of the symbols of distances.
func distSpans() [distSymbols]span {
	return [...]span{
		{1, 0}, {2, 0}, {3, 0}, {4, 0},
		{5, 1}, {7, 1}, {9, 2}, {13, 2}, {17, 3}, {25, 3}, {33, 4}, {49, 4}, {65, 5}, {97, 5},
		{129, 6}, {193, 6}, {257, 7}, {385, 7}, {513, 8}, {769, 8}, {1025, 9}, {1537, 9},
		{2049, 10}, {3073, 10}, {4097, 11}, {6145, 11}, {8193, 12}, {12289, 12}, {16385, 13}, {24577, 13},
	}
}

// within: the last of the spans that does not begin behind v; the first one begins ahead of it.
func within(spans []span, v int) int {
	return sort.Search(len(spans), func(i int) bool { return spans[i].least > v }) - 1
}

// LenSymbol: of a match's length its symbol, how many more bits, and these.
func LenSymbol(n int) (int, int, int, api.Errno) {
	if n < api.MinMatch || n > api.MaxMatch {
		return 0, 0, 0, api.ErrArg
	}
	spans := lenSpans()
	i := within(spans[:], n)
	return firstLen + i, spans[i].bits, n - spans[i].least, api.OK
}

// DistSymbol: of a distance likewise.
func DistSymbol(d int) (int, int, int, api.Errno) {
	if d < 1 || d > api.MaxLook {
		return 0, 0, 0, api.ErrArg
	}
	spans := distSpans()
	i := within(spans[:], d)
	return i, spans[i].bits, d - spans[i].least, api.OK
}

// LenOf: the least length of a symbol, and how many more bits.
func LenOf(symbol int) (int, int, api.Errno) {
	if symbol < firstLen || symbol >= litSymbols {
		return 0, 0, api.ErrArg
	}
	s := lenSpans()[symbol-firstLen]
	return s.least, s.bits, api.OK
}

// DistOf: the least distance of a symbol, and how many more bits.
func DistOf(symbol int) (int, int, api.Errno) {
	if symbol < 0 || symbol >= distSymbols {
		return 0, 0, api.ErrArg
	}
	s := distSpans()[symbol]
	return s.least, s.bits, api.OK
}

// PlainLens: the lengths of the plain codes, of literals and lengths, and of distances.
func PlainLens() ([]int, []int) {
	var lit []int
	for _, s := range [...]struct{ length, count int }{{8, 144}, {9, 112}, {7, 24}, {8, 8}} {
		lit = append(lit, repeated(s.length, s.count)...)
	}
	return lit, repeated(plainDistLen, plainDists)
}

// repeated: a length, so many times.
func repeated(length, count int) []int {
	out := make([]int, count)
	for i := range out {
		out[i] = length
	}
	return out
}
