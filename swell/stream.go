package swell

import (
	"sapper/api"
	"sapper/bits"
	"sapper/block"
	"sapper/code"
	"sapper/head"
	"sapper/ring"
)

const (
	byteBits   = 8
	beginBits  = 3  // whether it is the last block, and its kind
	storedBits = 16 // of each of the two numbers ahead of stored bytes
	storedMask = 1<<storedBits - 1
	endBlock   = 256 // the symbol that ends a block
	distCodes  = 32  // symbols of distances, of which the plain code has the most
)

// phase: what comes next of a stream.
type phase int

const (
	atBegin    phase = iota // a block's begin
	atSizes                 // a stored block's two numbers
	atStored                // its bytes
	atHead                  // a block's own lengths
	atSymbol                // a byte, a length, or the block's end
	atLength                // which length of its symbol
	atDistance              // a distance
	atFar                   // which distance of its symbol
	atMatch                 // the copying
	over                    // nothing: the stream has ended
)

// flow: what goes in and comes out in one Step.
type flow struct {
	in    []byte
	taken int // how many of these
	most  int // bytes that may come out
	out   []byte
}

// stream: one that is being taken up.
type stream struct {
	ring.Ring // the bytes that came out last
	bits      bits.Reader
	lit, dist *code.Decoder
	head      *head.Reader
	window    int // which may be below the ring's
	limit     int // bytes that may come out
	next      phase
	last      bool      // is the block at hand the last one?
	least     int       // the first value of the symbol at hand
	more      int       // bits behind its code
	left      int       // bytes that the block, if it is stored, or the match still has
	far       int       // the match's distance
	wrong     api.Errno // why it was given up
}

// newStream: with all the room that it will ever have. Nothing is refused: the window may be, and so many symbols may.
func newStream(window int) *stream {
	back, _ := ring.New(window)
	lit, _ := code.NewDecoder(api.MaxSymbols)
	dist, _ := code.NewDecoder(distCodes)
	return &stream{Ring: *back, lit: lit, dist: dist, head: head.New()}
}

// start: it waits for a stream's first byte.
func (s *stream) start(window, limit int) {
	s.Ring.Reset()
	*s = stream{Ring: s.Ring, lit: s.lit, dist: s.dist, head: s.head, window: window, limit: limit}
}

// room: of the buffers, whatever they hold.
func (s *stream) room() int {
	return s.lit.Room() + s.dist.Room() + s.Ring.Room() + s.head.Room()
}

// step: what goes in and comes out; or why the stream is wrong, as has shown just now.
func (s *stream) step(p []byte, most int) (f flow, err api.Errno) {
	before := s.Ring
	defer func() {
		if why := recover(); why != nil {
			s.wrong = why.(api.Errno)
			// What came out in this Step is not told, so it is not counted. The ring's bytes may be others now: none is read any more.
			s.Ring = before
			f, err = flow{}, s.wrong
		}
	}()
	f = flow{in: p, most: most}
	s.run(&f)
	return f, api.OK
}

// run: one thing behind the other, as long as bytes may come out and the bits are there.
func (s *stream) run(f *flow) {
	does := deeds()
	for s.next != over && len(f.out) < f.most {
		if !does[s.next](s, f) && !s.feed(f) {
			return
		}
	}
}

// deeds: what is done with what comes next; false: its bits are not all there.
func deeds() [over]func(*stream, *flow) bool {
	return [...]func(*stream, *flow) bool{
		atBegin:    (*stream).begin,
		atSizes:    (*stream).sizes,
		atStored:   (*stream).stored,
		atHead:     (*stream).lengths,
		atSymbol:   (*stream).symbol,
		atLength:   (*stream).length,
		atDistance: (*stream).distance,
		atFar:      (*stream).reach,
		atMatch:    (*stream).match,
	}
}

// feed: one byte more is taken; false: there is none. Never more than one, since it may be the stream's last.
func (s *stream) feed(f *flow) bool {
	if f.taken == len(f.in) {
		return false
	}
	f.taken += s.bits.Feed(f.in[f.taken : f.taken+1])
	return true
}

// begin: of which kind a block is.
func (s *stream) begin(*flow) bool {
	v, there := s.bits.Take(beginBits)
	if !there {
		return false
	}
	s.last = v&1 == 1
	switch block.Kind(v >> 1) {
	case block.Stored:
		s.bits.Align()
		s.next = atSizes
	case block.Plain:
		s.load(block.PlainLens())
	case block.Own:
		s.head.Reset()
		s.next = atHead
	default:
		panic(api.ErrSwellForm)
	}
	return true
}

// end: of a block.
func (s *stream) end() {
	s.next = atBegin
	if s.last {
		s.next = over
	}
}

// load: the codes by which a block's tokens are read. Neither is refused: chapters 8 and 9 have none that may not be.
func (s *stream) load(lit, dist []int) {
	s.lit.Load(lit)
	s.dist.Load(dist)
	s.next = atSymbol
}

// sizes: how many bytes a stored block has, told twice.
func (s *stream) sizes(*flow) bool {
	v, there := s.bits.Take(2 * storedBits)
	if !there {
		return false
	}
	size, turned := v&storedMask, v>>storedBits
	if size^turned != storedMask {
		panic(api.ErrSwellForm)
	}
	s.left = int(size)
	s.next = atStored
	return true
}

// stored: a byte of the block; behind the last one, the block's end, which has no bits.
func (s *stream) stored(f *flow) bool {
	if s.left == 0 {
		s.end()
		return true
	}
	v, there := s.bits.Take(byteBits)
	if there {
		s.left--
		s.put(f, byte(v))
	}
	return there
}

// lengths: of a block's own codes.
func (s *stream) lengths(*flow) bool {
	whole, err := s.head.Step(&s.bits)
	if err != api.OK {
		panic(api.ErrSwellForm)
	}
	if whole {
		s.load(s.head.Lens())
	}
	return whole
}

// coded: the next symbol of a code; false: its bits are not all there.
func (s *stream) coded(d *code.Decoder) (int, bool) {
	symbol, there, err := d.Next(&s.bits)
	if err != api.OK {
		panic(api.ErrSwellForm)
	}
	return symbol, there
}

// span: the values of the symbol at hand, of which the bits in the next phase say which; err: it has none.
func (s *stream) span(next phase, least, more int, err api.Errno) {
	if err != api.OK {
		panic(api.ErrSwellForm)
	}
	s.next, s.least, s.more = next, least, more
}

// value: of the symbol at hand; false: its bits are not all there.
func (s *stream) value() (int, bool) {
	v, there := s.bits.Take(s.more)
	return s.least + int(v), there
}

// symbol: a byte, the block's end, or a length's symbol.
func (s *stream) symbol(f *flow) bool {
	symbol, there := s.coded(s.lit)
	switch {
	case !there:
		return false
	case symbol < endBlock:
		s.put(f, byte(symbol))
	case symbol == endBlock:
		s.end()
	default:
		least, more, err := block.LenOf(symbol)
		s.span(atLength, least, more, err)
	}
	return true
}

// length: a match's.
func (s *stream) length(*flow) bool {
	n, there := s.value()
	if there {
		s.left = n
		s.next = atDistance
	}
	return there
}

// distance: its symbol.
func (s *stream) distance(*flow) bool {
	symbol, there := s.coded(s.dist)
	if there {
		least, more, err := block.DistOf(symbol)
		s.span(atFar, least, more, err)
	}
	return there
}

// reach: how far back the match leads, which must be to where something is.
func (s *stream) reach(*flow) bool {
	dist, there := s.value()
	if !there {
		return false
	}
	if dist > s.window || dist > s.Total() {
		panic(api.ErrSwellFar)
	}
	s.far = dist
	s.next = atMatch
	return true
}

// match: as many of its bytes as may come out now.
func (s *stream) match(f *flow) bool {
	n := min(s.left, f.most-len(f.out), s.spare())
	row, _ := s.Copy(s.far, n) // it was held against what there is
	f.out = append(f.out, row...)
	s.left -= n
	if s.left == 0 {
		s.next = atSymbol
	}
	return true
}

// put: a byte comes out.
func (s *stream) put(f *flow, b byte) {
	s.spare()
	s.Put(b)
	f.out = append(f.out, b)
}

// spare: how many bytes may come out up to the cap. Where it is asked one is to come, so that none is too few.
func (s *stream) spare() int {
	n := s.limit - s.Total()
	if n == 0 {
		panic(api.ErrSwellLong)
	}
	return n
}
