package head

import (
	"sapper/api"
	"sapper/bits"
	"sapper/code"
)

// stage: which part comes next; or that none does.
type stage int

const (
	atCounts stage = iota
	atSize
	atSymbol
	atMore
	whole
	broken
)

// Reader takes them up.
type Reader struct {
	made      bool
	next      stage
	lit, dist int // how many lengths of the row are LIT's and DIST's
	told      int // how many sizes are told
	sized     int // how many of these are there
	laid      int // how many lengths of the row are there
	symbol    int // the one at hand, behind which its bits stand
	sizes     [symbols]uint8
	row       [maxLens]uint8
	// By value, so that a reader holds all that it knows and none shares its code with another one.
	decoder code.Decoder
}

// New: one that has read nothing.
func New() *Reader {
	decoder, _ := code.NewDecoder(symbols) // nineteen are never too many
	return &Reader{made: true, decoder: *decoder}
}

// Step: some bits; are the lengths whole?
func (h *Reader) Step(r *bits.Reader) (bool, api.Errno) {
	if h == nil || !h.made || r == nil {
		return false, api.ErrMade
	}
	parts := [...]func(*bits.Reader) bool{
		atCounts: h.takeCounts,
		atSize:   h.takeSize,
		atSymbol: h.takeSymbol,
		atMore:   h.takeMore,
	}
	for h.next < whole && parts[h.next](r) {
	}
	if h.next == broken {
		return false, api.ErrHeadForm
	}
	return h.next == whole, api.OK
}

// takeCounts: how many lengths there are of each kind; false: the part is not there yet.
func (h *Reader) takeCounts(r *bits.Reader) bool {
	v, there := r.Take(countsBits)
	if !there {
		return false
	}
	h.lit = leastLit + int(v&(1<<litBits-1))
	h.dist = leastDist + int(v>>litBits&(1<<distBits-1))
	h.told = leastSizes + int(v>>(litBits+distBits))
	h.next = atSize
	if h.lit > mostLit || h.dist > mostDist {
		h.next = broken
	}
	return true
}

// takeSize: the length of a run's symbol's code.
func (h *Reader) takeSize(r *bits.Reader) bool {
	v, there := r.Take(sizeBits)
	if !there {
		return false
	}
	h.sizes[order[h.sized]] = uint8(v)
	h.sized++
	if h.sized == h.told {
		h.load()
	}
	return true
}

// load: the code of the runs' symbols, whose sizes are all there. One without symbols is refused here: it may be a code, but no run can follow.
func (h *Reader) load() {
	h.next = atSymbol
	if h.sizes == [symbols]uint8{} || h.decoder.Load(numbers(h.sizes[:])) != api.OK {
		h.next = broken
	}
}

// takeSymbol: what a run stands for.
func (h *Reader) takeSymbol(r *bits.Reader) bool {
	symbol, there, err := h.decoder.Next(r)
	if err != api.OK {
		h.next = broken
		return true
	}
	if !there {
		return false
	}
	h.symbol = symbol
	s := senses[symbol]
	switch {
	case s.length == ahead && h.laid == 0:
		h.next = broken
	case s.bits > 0:
		h.next = atMore
	default:
		h.lay(s.least)
	}
	return true
}

// takeMore: the bits behind a symbol.
func (h *Reader) takeMore(r *bits.Reader) bool {
	s := senses[h.symbol]
	v, there := r.Take(s.bits)
	if there {
		h.lay(s.least + int(v))
	}
	return there
}

// lay: what the symbol at hand stands for comes to the row, so many times.
func (h *Reader) lay(count int) {
	all := h.lit + h.dist
	if count > all-h.laid {
		h.next = broken
		return
	}
	length := senses[h.symbol].length
	if length == ahead {
		length = int(h.row[h.laid-1])
	}
	for range count {
		h.row[h.laid] = uint8(length)
		h.laid++
	}
	h.next = atSymbol
	if h.laid == all {
		h.end()
	}
}

// end: the row is there; is it one that can be told?
func (h *Reader) end() {
	h.next = broken
	if tellable(h.halves()) {
		h.next = whole
	}
}

// halves: LIT and DIST, as they stand in the row.
func (h *Reader) halves() ([]int, []int) {
	return numbers(h.row[:h.lit]), numbers(h.row[h.lit : h.lit+h.dist])
}

// numbers: the reader keeps lengths as bytes, which is all the room that it says it has.
func numbers(lengths []uint8) []int {
	out := make([]int, len(lengths))
	for i, l := range lengths {
		out[i] = int(l)
	}
	return out
}

// Lens: the lengths, as soon as they are whole.
func (h *Reader) Lens() ([]int, []int) {
	if h == nil || h.next != whole {
		return nil, nil
	}
	return h.halves()
}

// Reset: it has read nothing.
func (h *Reader) Reset() {
	if h != nil && h.made {
		*h = *New()
	}
}

// Room: how many bytes it holds.
func (h *Reader) Room() int {
	if h == nil || !h.made {
		return 0
	}
	return h.decoder.Room() + len(h.sizes) + len(h.row)
}
