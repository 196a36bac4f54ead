package frame_test

import (
	"slices"
	"testing"

	"sapper/api"
	"sapper/frame"
)

// turner turns bits of a patch, counts what is answered, and turns them back.
type turner struct {
	t     *testing.T
	patch []byte
	count map[api.Errno]int
}

// turnerOf: of a patch that there is.
func turnerOf(t *testing.T, b []byte) turner {
	t.Helper()
	if _, _, err := frame.Decode(b); err != api.OK {
		t.Fatalf("Decode(% x): %v", b, err)
	}
	return turner{t, slices.Clone(b), map[api.Errno]int{}}
}

// flip: a bit, the lowest of a byte first.
func (u turner) flip(bit int) { u.patch[bit/8] ^= 1 << (bit % 8) }

// turn: with these bits turned it is no patch.
func (u turner) turn(bits ...int) {
	u.t.Helper()
	for _, b := range bits {
		u.flip(b)
	}
	h, l, err := frame.Decode(u.patch)
	if err != api.ErrFrameForm && err != api.ErrFrameSum || h != (api.Head{}) || len(l) != 0 {
		u.t.Fatalf("the bits %v of a patch of %d bytes are turned: %v, %v, %v", bits, len(u.patch), h, l, err)
	}
	u.count[err]++
	for _, b := range bits {
		u.flip(b)
	}
}

// row: bits that stand within 32 from one on, as far as the patch goes.
func (u turner) row(first int, mask uint32) {
	u.t.Helper()
	var bits []int
	for i := range 32 {
		if mask>>i&1 == 1 && first+i < 8*len(u.patch) {
			bits = append(bits, first+i)
		}
	}
	if len(bits) > 0 {
		u.turn(bits...)
	}
}

// wild: a patch whose bytes can't be pressed, so that most of their bits may be others and it keeps its form.
func wild(t *testing.T, r *rolls, size int) []byte {
	t.Helper()
	h := api.Head{Old: 40, New: size, OldSum: r.word(), NewSum: r.word(), Window: 4096, Look: 100}
	var l []api.Window
	for _, n := range sizesAll(h) {
		w := api.Window{Edit: api.Edit{Steps: steps(0, n, 0)}}
		for range n {
			w.Edit.Extra = append(w.Edit.Extra, byte(r.below(256)))
		}
		l = append(l, w)
	}
	o := options(100)
	o.Block = api.MaxBlock
	return mustEncode(t, h, o, l...)
}

// P18.8: each bit of short patches, each pair of bits of those that have one window at most, each three bits of the shortest one; pairs and threes that are drawn of all.
func TestFewBitsOfShortPatches(t *testing.T) {
	r := rolls(14)
	for i, b := range append(patches(t), wild(t, &r, 30)) {
		u := turnerOf(t, b)
		n := 8 * len(b)
		for x := range n {
			u.turn(x)
			for y := 0; i < 3 && y < x; y++ {
				u.turn(x, y)
				for z := 0; i == 0 && z < y; z++ {
					u.turn(x, y, z)
				}
			}
		}
		for range 10000 {
			x, y, z := r.below(n), r.below(n), r.below(n)
			if x != y && y != z && z != x {
				u.turn(x, y)
				u.turn(x, y, z)
			}
		}
		if u.count[api.ErrFrameForm] < 100 || u.count[api.ErrFrameSum] < 100 {
			t.Errorf("of %d bytes: %v", len(b), u.count)
		}
	}
}

// P18.8: bits that stand within 32 that follow one another, at each place of short patches.
func TestRowsOfBits(t *testing.T) {
	r := rolls(15)
	for _, b := range append(patches(t), wild(t, &r, 100)) {
		u := turnerOf(t, b)
		for first := range 8 * len(b) {
			for _, mask := range []uint32{1, 3, 1 | 1<<31, 1<<32 - 1, 0xedb88320, 0x04c11db7, 0xdb710641, 1<<31 | 1<<30} {
				u.row(first, mask)
			}
			for range 5 {
				u.row(first, r.word())
				u.row(first, r.word()&r.word()&r.word())
			}
		}
		if u.count[api.ErrFrameForm] < 100 || u.count[api.ErrFrameSum] < 100 {
			t.Errorf("of %d bytes: %v", len(b), u.count)
		}
	}
}

// P18.8: one, two and three bits of a patch of just 11450 bytes, and rows of one that is longer.
func TestBitsOfLongPatches(t *testing.T) {
	r := rolls(16)
	size := 11450
	b := wild(t, &r, size)
	for len(b) != 11450 { // what stands beside the bytes is of some sixty
		size += 11450 - len(b)
		b = wild(t, &r, size)
	}
	u := turnerOf(t, b)
	n := 8 * len(b)
	for range 1000 {
		x, y, z := r.below(n), r.below(n), r.below(n)
		if x == y || y == z || z == x {
			continue
		}
		u.turn(x)
		u.turn(x, y)
		u.turn(x, y, z)
		u.row(x, r.word()|1)
	}
	if u.count[api.ErrFrameSum] < 2000 {
		t.Errorf("%v", u.count)
	}
	u = turnerOf(t, wild(t, &r, 70000))
	for range 300 {
		u.row(r.below(8*len(u.patch)), r.word()|1)
		u.row(8*len(u.patch)-64+r.below(64), r.word()|1)
	}
	if u.count[api.ErrFrameSum] < 300 {
		t.Errorf("%v", u.count)
	}
}
