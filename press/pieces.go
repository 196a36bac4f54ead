package press

import (
	"iter"

	"sapper/api"
	"sapper/block"
	"sapper/lz"
)

const byteBits = 8

// Part is a block of a stream: its kind, how many tokens it has, how many bytes these are, and how many bits it takes.
type Part struct {
	Kind   block.Kind
	Tokens int
	Bytes  int
	Bits   int
}

// piece: a block with what is written of it.
type piece struct {
	Part
	last   bool
	data   []byte
	tokens []api.Token
}

// pieces: the blocks that tokens are cut into, of so many tokens at most; data: the bytes that the tokens are.
func pieces(data []byte, l []api.Token, most int) iter.Seq[piece] {
	return func(yield func(piece) bool) {
		bits, place := 0, 0 // that stand ahead, of the stream and of data
		// The first one is there even without tokens.
		for first := 0; first == 0 || first < len(l); first += most {
			end := min(first+most, len(l))
			p := planned(bits%byteBits, l[first:end:end])
			p.last = end == len(l)
			p.data = data[place : place+p.Bytes : place+p.Bytes]
			bits += p.Bits
			place += p.Bytes
			if !yield(p) {
				return
			}
		}
	}
}

// planned: the block of these tokens behind so many bits of a byte. None is refused: they are lz's own tokens, and no more than a block may have.
func planned(behind int, l []api.Token) piece {
	kind, _ := block.Pick(behind, l...)
	n, _ := block.Cost(kind, behind, l...)
	return piece{Part: Part{Kind: kind, Tokens: len(l), Bytes: lz.Size(l...), Bits: n}, tokens: l}
}
