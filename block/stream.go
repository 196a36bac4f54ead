package block

import (
	"sapper/api"
	"sapper/bits"
	"sapper/code"
	"sapper/head"
)

// Seg is a block of a stream, as it was read.
type Seg struct {
	Kind   Kind
	Last   bool
	Bits   int
	Tokens []api.Token
}

// codes: the two by which a block's tokens are read.
type codes struct{ lit, dist *code.Decoder }

// loaded: codes of these lengths, of which there may be such.
func loaded(litLens, distLens []int) codes {
	lit, _ := code.NewDecoder(api.MaxSymbols)
	dist, _ := code.NewDecoder(plainDists)
	lit.Load(litLens)
	dist.Load(distLens)
	return codes{lit, dist}
}

// stream: bytes that are read as blocks.
type stream struct {
	bits   bits.Reader
	rest   []byte // not fed yet
	window int
	ahead  int   // how many bytes stand ahead, as far as a distance may reach
	plain  codes // made once: a stream may have many small blocks
}

// Blocks: the blocks of a whole stream, over a window.
func Blocks(b []byte, window int) ([]Seg, api.Errno) {
	if window < 1 || window > api.MaxLook {
		return nil, api.ErrArg
	}
	s := &stream{rest: b, window: window, plain: loaded(PlainLens())}
	var out []Seg
	for {
		seg, ok := s.block()
		if !ok {
			return nil, api.ErrBlockForm
		}
		out = append(out, seg)
		if seg.Last {
			break
		}
	}
	if !s.over() {
		return nil, api.ErrBlockForm
	}
	return out, api.OK
}

// block: the next one; false: there is none.
func (s *stream) block() (Seg, bool) {
	from := s.bits.Taken()
	begin, there := s.take(beginBits)
	k := Kind(begin >> 1)
	if !there || k >= kinds {
		return Seg{}, false
	}
	l, ok := forms()[k].read(s)
	return Seg{Kind: k, Last: begin&1 == 1, Bits: s.bits.Taken() - from, Tokens: l}, ok
}

// over: is nothing left, but for bits of the byte at hand?
func (s *stream) over() bool {
	s.bits.Align()
	return s.bits.Has() == 0 && len(s.rest) == 0
}

// fill: as many bits are there as go in. They are enough for any part of a block that is taken at one time, unless the bytes have come to their end.
func (s *stream) fill() { s.rest = s.rest[s.bits.Feed(s.rest):] }

// take: a number of n bits; false: they are not there.
func (s *stream) take(n int) (int, bool) {
	s.fill()
	v, there := s.bits.Take(n)
	return int(v), there
}

// symbol: of a code; false: the bits are none, or not there.
func (s *stream) symbol(d *code.Decoder) (int, bool) {
	s.fill()
	symbol, there, _ := d.Next(&s.bits)
	return symbol, there
}

// made: so many bytes more stand ahead.
func (s *stream) made(n int) { s.ahead = min(s.ahead+n, api.MaxLook) }

// readStored: what stands behind a Stored block's begin.
func readStored(s *stream) ([]api.Token, bool) {
	s.bits.Align()
	size, _ := s.take(storedBits)
	turned, there := s.take(storedBits)
	if !there || size^turned != storedMask {
		return nil, false
	}
	var out []api.Token
	for range size {
		v, there := s.take(byteBits)
		if !there {
			return nil, false
		}
		out = append(out, api.Token{Lit: byte(v)})
	}
	s.made(size)
	return out, true
}

// readPlain: likewise, a Plain one's.
func readPlain(s *stream) ([]api.Token, bool) { return s.tokens(s.plain) }

// readOwn: likewise, an Own one's.
func readOwn(s *stream) ([]api.Token, bool) {
	h := head.New()
	for {
		s.fill()
		whole, err := h.Step(&s.bits)
		if whole {
			return s.tokens(loaded(h.Lens()))
		}
		if err != api.OK || len(s.rest) == 0 {
			return nil, false
		}
	}
}

// tokens: up to the block's end.
func (s *stream) tokens(c codes) ([]api.Token, bool) {
	var out []api.Token
	for {
		symbol, there := s.symbol(c.lit)
		if !there {
			return nil, false
		}
		if symbol == endBlock {
			return out, true
		}
		token, size := api.Token{Lit: byte(symbol)}, 1
		if symbol > endBlock {
			match, ok := s.match(symbol, c.dist)
			if !ok {
				return nil, false
			}
			token, size = match, match.Len
		}
		out = append(out, token)
		s.made(size)
	}
}

// match: whose length has this symbol; false: it is none, or leads to where nothing is.
func (s *stream) match(symbol int, d *code.Decoder) (api.Token, bool) {
	n, ok := s.value(LenOf(symbol))
	if !ok {
		return api.Token{}, false
	}
	symbol, there := s.symbol(d)
	if !there {
		return api.Token{}, false
	}
	dist, ok := s.value(DistOf(symbol))
	if !ok || dist > min(s.window, s.ahead) {
		return api.Token{}, false
	}
	return api.Token{Len: n, Dist: dist}, true
}

// value: one of a span, that the more bits say; false: there is no such span (err), or the bits are not there.
func (s *stream) value(least, n int, err api.Errno) (int, bool) {
	if err != api.OK {
		return 0, false
	}
	v, there := s.take(n)
	return least + v, there
}
