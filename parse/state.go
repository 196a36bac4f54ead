package parse

import (
	"math"

	"sapper/api"
	"sapper/crc"
	"sapper/frame"
	"sapper/num"
)

const (
	opening      = "SAPR\x01" // what every patch begins with
	wordBytes    = 4          // bytes of a sum
	headNumbers  = 4          // of a header
	sizesNumbers = 7          // of a frame
	sealed       = 0x2144df1c // the sum of any bytes with their own sum behind them
)

// phase: what is waited for.
type phase int

const (
	none      phase = iota // nothing: no call made it
	atMagic                // what every patch begins with
	atNumbers              // the header's numbers
	atImages               // the sums of both images
	atHeadSum              // the header's own; behind it the header is told
	atSizes                // a frame's numbers
	atStream               // the bytes of its streams
	atSum                  // the patch's sum
	over                   // nothing: the patch has ended
)

// running: the sum of all bytes so far.
type running struct{ sum uint32 }

// add: one byte more.
func (r *running) add(v byte) { r.sum = crc.More(r.sum, []byte{v}) }

// isSealed: are the last four bytes the sum of all ahead of them? No other four lead to this sum, whatever stood ahead.
func (r *running) isSealed() bool { return r.sum == sealed }

// state: what is kept of a patch, which are numbers alone.
type state struct {
	running
	num.Taker // the number at hand
	next      phase
	count     int               // of what is waited for, the bytes or numbers that are there
	numbers   [sizesNumbers]int // these numbers
	head      api.Head          // told as soon as its sum was taken
	windows   int               // how many frames were told
	left      [3]int            // bytes that the streams of the last of these still have
	taken     int               // bytes in all
	wrong     api.Errno         // why it was given up
}

// step: bytes are taken up to the first thing that is to be told; what it is, and how many.
func (s *state) step(b []byte) (api.Event, int, api.Errno) {
	does := deeds()
	var told api.Event
	taken, whole := 0, false
	for taken < len(b) && !whole && s.next != over {
		v := b[taken]
		s.add(v)
		var err api.Errno
		whole, err = does[s.next](s, v, &told)
		if err != api.OK {
			return api.Event{}, 0, err
		}
		taken++
	}
	s.taken += taken
	return told, taken, api.OK
}

// deeds: what is done with a byte, by what is waited for, and with what is told of the bytes so far; true: that is whole.
func deeds() [over]func(*state, byte, *api.Event) (bool, api.Errno) {
	return [...]func(*state, byte, *api.Event) (bool, api.Errno){
		atMagic:   (*state).magic,
		atNumbers: (*state).headNumber,
		atImages:  (*state).image,
		atHeadSum: (*state).headSum,
		atSizes:   (*state).size,
		atStream:  (*state).stream,
		atSum:     (*state).endSum,
	}
}

// last: one more is there of so many that are waited for; was it the last one?
func (s *state) last(of int) bool {
	s.count = (s.count + 1) % of
	return s.count == 0
}

// number: a byte of one of so many; was it the last byte of the last one?
func (s *state) number(v byte, of int) (bool, api.Errno) {
	n, ended, err := s.Take(v)
	if err != api.OK {
		return false, api.ErrParseForm
	}
	if !ended {
		return false, api.OK
	}
	// The greatest int stands for all that no int holds: nowhere in a patch may it be, either.
	s.numbers[s.count] = int(min(n, math.MaxInt))
	return s.last(of), api.OK
}

// word: a byte of a sum of all ahead of it; was it the last one, and the sum right?
func (s *state) word() (bool, api.Errno) {
	if !s.last(wordBytes) {
		return false, api.OK
	}
	if !s.isSealed() {
		return false, api.ErrParseSum
	}
	return true, api.OK
}

// magic: what every patch begins with.
func (s *state) magic(v byte, _ *api.Event) (bool, api.Errno) {
	if v != opening[s.count] {
		return false, api.ErrParseForm
	}
	if s.last(len(opening)) {
		s.next = atNumbers
	}
	return false, api.OK
}

// headNumber: of a header. They are held against what they may be when its sum is there.
func (s *state) headNumber(v byte, _ *api.Event) (bool, api.Errno) {
	whole, err := s.number(v, headNumbers)
	if whole {
		s.head = api.Head{Old: s.numbers[0], New: s.numbers[1], Window: s.numbers[2], Look: s.numbers[3]}
		s.next = atImages
	}
	return false, err
}

// image: a byte of the sums of both images, the least of each first.
func (s *state) image(v byte, _ *api.Event) (bool, api.Errno) {
	sum := &s.head.OldSum
	if s.count >= wordBytes {
		sum = &s.head.NewSum
	}
	*sum |= uint32(v) << (8 * (s.count % wordBytes))
	if s.last(2 * wordBytes) {
		s.next = atHeadSum
	}
	return false, api.OK
}

// headSum: of the header's own sum.
func (s *state) headSum(_ byte, told *api.Event) (bool, api.Errno) {
	whole, err := s.word()
	if !whole {
		return false, err
	}
	if frame.Check(s.head) != api.OK {
		return false, api.ErrParseForm
	}
	*told = api.Event{Kind: api.EventHead, Head: s.head}
	s.goOn()
	return true, api.OK
}

// goOn: to the next frame, or, behind the last window, to the patch's sum.
func (s *state) goOn() {
	s.next = atSizes
	if s.windows == frame.Windows(s.head) {
		s.next = atSum
	}
}

// size: of a frame's numbers.
func (s *state) size(v byte, told *api.Event) (bool, api.Errno) {
	whole, err := s.number(v, sizesNumbers)
	if !whole {
		return false, err
	}
	l := s.numbers
	sizes := api.Sizes{Pos: l[0], Raw: [3]int{l[1], l[2], l[3]}, Packed: [3]int{l[4], l[5], l[6]}}
	if frame.Fits(s.head, s.windows, sizes) != api.OK {
		return false, api.ErrParseForm
	}
	*told = api.Event{Kind: api.EventWindow, Sizes: sizes}
	s.windows++
	s.left = sizes.Packed
	s.next = atStream // the control always has bytes
	return true, api.OK
}

// open: the first stream that still has bytes; false: none has.
func (s *state) open() (int, bool) {
	for k, n := range s.left {
		if n > 0 {
			return k, true
		}
	}
	return 0, false
}

// stream: a byte of the one at hand, behind those that this call has taken of it.
func (s *state) stream(v byte, told *api.Event) (bool, api.Errno) {
	k, _ := s.open()
	told.Kind, told.Stream = api.EventBytes, k
	told.Bytes = append(told.Bytes, v)
	s.left[k]--
	if _, more := s.open(); !more {
		s.goOn()
	}
	return s.left[k] == 0, api.OK
}

// endSum: of the patch's sum.
func (s *state) endSum(_ byte, told *api.Event) (bool, api.Errno) {
	whole, err := s.word()
	if whole {
		*told = api.Event{Kind: api.EventEnd}
		s.next = over
	}
	return whole, err
}
