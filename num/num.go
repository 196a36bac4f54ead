// Package num is layer 1: numbers as bytes. See shared/doc/01-num.md.
package num

import (
	"iter"
	"math/bits"
	"slices"

	"sapper/api"
)

const (
	maxFixed    = 8    // bytes of a fixed number
	maxShortest = 10   // bytes of a shortest form
	groupBits   = 7    // bits of a number in a byte of its shortest form
	groupMask   = 0x7f // those bits
	moreFlag    = 0x80 // another byte follows
	lastGroup   = 1    // the greatest tenth byte: nine groups leave one bit of 64
)

// Fixed: a number as so many bytes, the least first.
func Fixed(v uint64, size int) ([]byte, api.Errno) {
	if !isFixedSize(size) {
		return nil, api.ErrArg
	}
	// A shift by 64 gives 0, so that eight bytes hold every number.
	if v>>(8*size) != 0 {
		return nil, api.ErrNumLong
	}
	out := make([]byte, size)
	for i := range out {
		out[i] = byte(v >> (8 * i))
	}
	return out, api.OK
}

// Unfix: the number that the first so many bytes are.
func Unfix(b []byte, size int) (uint64, api.Errno) {
	if !isFixedSize(size) {
		return 0, api.ErrArg
	}
	if len(b) < size {
		return 0, api.ErrNumShort
	}
	v := uint64(0)
	for i, c := range b[:size] {
		v |= uint64(c) << (8 * i)
	}
	return v, api.OK
}

func isFixedSize(size int) bool { return size >= 1 && size <= maxFixed }

// Encode: numbers in their shortest form, one behind the other.
func Encode(l ...uint64) []byte {
	out := make([]byte, 0, Size(l...))
	for _, v := range l {
		for v > groupMask {
			out = append(out, byte(v&groupMask)|moreFlag)
			v >>= groupBits
		}
		out = append(out, byte(v))
	}
	return out
}

// Size: how many bytes that takes.
func Size(l ...uint64) int {
	n := 0
	for _, v := range l {
		// 0 has a group, too: it is as long as 1.
		n += (bits.Len64(v|1) + groupBits - 1) / groupBits
	}
	return n
}

// Decode: the first number, how many bytes it has, and the error.
func Decode(b []byte) (uint64, int, api.Errno) {
	var t Taker
	for i, c := range b {
		v, ended, err := t.Take(c)
		if err != api.OK {
			return 0, 0, err
		}
		if ended {
			return v, i + 1, api.OK
		}
	}
	return 0, 0, api.ErrNumShort
}

// All: the numbers from the front on, each with the place where it begins.
func All(b []byte) iter.Seq2[int, uint64] {
	// The caller may change its bytes before the iterator is gone over.
	own := slices.Clone(b)
	return func(yield func(int, uint64) bool) {
		if yield == nil {
			return
		}
		for at := 0; at < len(own); {
			v, n, err := Decode(own[at:])
			if err != api.OK || !yield(at, v) {
				return
			}
			at += n
		}
	}
}

// Zig: a number with a sign as one without.
func Zig(v int) uint64 {
	if v >= 0 {
		return 2 * uint64(v)
	}
	// -2v - 1 is written by -(v + 1), which the least int has, too.
	return 2*uint64(-(v+1)) + 1
}

// Zag: and back.
func Zag(u uint64) int {
	half := int(u / 2)
	if u%2 == 0 {
		return half
	}
	return -half - 1
}

// Taker reads one number byte by byte. Its zero value is ready.
type Taker struct {
	value uint64 // of the groups taken
	count int    // of the groups taken
}

// Take: the next byte; the number, if it ends here, and whether it does.
func (t *Taker) Take(b byte) (uint64, bool, api.Errno) {
	if t == nil {
		return 0, false, api.ErrMade
	}
	if err := t.refuses(b); err != api.OK {
		t.Reset()
		return 0, false, err
	}
	t.value |= uint64(b&groupMask) << (groupBits * t.count)
	t.count++
	if b&moreFlag != 0 {
		return 0, false, api.OK
	}
	v := t.value
	t.Reset()
	return v, true, api.OK
}

func (t *Taker) refuses(b byte) api.Errno {
	if t.count == maxShortest-1 && b > lastGroup {
		return api.ErrNumLong
	}
	if t.count > 0 && b == 0 {
		return api.ErrNumForm
	}
	return api.OK
}

// Waits: how many bytes of a number it has taken.
func (t *Taker) Waits() int {
	if t == nil {
		return 0
	}
	return t.count
}

// Reset: it waits for a number's first byte.
func (t *Taker) Reset() {
	if t == nil {
		return
	}
	*t = Taker{}
}
