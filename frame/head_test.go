package frame_test

import (
	"bytes"
	"math"
	"slices"
	"testing"

	"sapper/api"
	"sapper/frame"
)

// holdHead: P18.1, P18.2, P18.6 of a header, by the chapter's words.
func holdHead(t *testing.T, h api.Head) {
	t.Helper()
	want, wantErr := headOf(h)
	if err := frame.Check(h); err != wantErr {
		t.Fatalf("Check(%v) = %v, not %v", h, err, wantErr)
	}
	b, err := frame.Head(h)
	if !bytes.Equal(b, want) || err != wantErr {
		t.Fatalf("Head(%v) = % x, %v, not % x, %v", h, b, err, want, wantErr)
	}
	l := sizesAll(h)
	if n := frame.Windows(h); n != len(l) {
		t.Fatalf("Windows(%v) = %d, not %d", h, n, len(l))
	}
	for _, i := range []int{math.MinInt, -2, -1, 0, 1, len(l) / 2, len(l) - 2, len(l) - 1, len(l), len(l) + 1, math.MaxInt} {
		want := 0
		if i >= 0 && i < len(l) {
			want = l[i]
		}
		if n := frame.Size(h, i); n != want {
			t.Fatalf("Size(%v, %d) = %d, not %d", h, i, n, want)
		}
	}
	if err != api.OK {
		return
	}
	for _, behind := range [][]byte{nil, {0}, {7, 255}, b} {
		if back, n, err := frame.ReadHead(slices.Concat(b, behind)); back != h || n != len(b) || err != api.OK {
			t.Fatalf("ReadHead(Head(%v) and % x) = %v, %d, %v", h, behind, back, n, err)
		}
	}
}

// holdReadHead: P18.2, P18.6 of bytes, by the chapter's words.
func holdReadHead(t *testing.T, b []byte) api.Errno {
	t.Helper()
	h, n, err := frame.ReadHead(b)
	want, wantN, wantErr := readHeadOf(b)
	if h != want || n != wantN || err != wantErr {
		t.Fatalf("ReadHead(% x) = %v, %d, %v, not %v, %d, %v", b, h, n, err, want, wantN, wantErr)
	}
	if err == api.OK {
		if again, err := frame.Head(h); !bytes.Equal(again, b[:n]) || err != api.OK {
			t.Fatalf("Head(ReadHead(% x)) = % x, %v", b, again, err)
		}
	}
	return err
}

// P18.1, P18.2: the chapter's first example, and a header whose bytes are written out.
func TestExamplesOfHead(t *testing.T) {
	b, err := frame.Head(api.Head{Window: 64, Look: 100})
	want := "SAPR\x01\x00\x00\x40\x64\x00\x00\x00\x00\x00\x00\x00\x00"
	if len(b) != 21 || string(b[:17]) != want || !bytes.Equal(b, sealed([]byte(want))) || err != api.OK {
		t.Errorf("% x, %v", b, err)
	}
	if n := frame.Windows(api.Head{Window: 64, Look: 100}); n != 0 {
		t.Error(n)
	}
	if b, err := frame.Head(api.Head{Window: 63, Look: 100}); len(b) != 0 || err != api.ErrFrameHead {
		t.Errorf("% x, %v", b, err)
	}
	h := api.Head{Old: 300, New: 1 << 24, OldSum: 0x01020304, NewSum: 0xfffefdfc, Window: 65536, Look: 32768}
	want = "SAPR\x01\xac\x02\x80\x80\x80\x08\x80\x80\x04\x80\x80\x02\x04\x03\x02\x01\xfc\xfd\xfe\xff"
	if b, err := frame.Head(h); !bytes.Equal(b, sealed([]byte(want))) || err != api.OK {
		t.Errorf("% x, %v", b, err)
	}
	if got, n, err := frame.ReadHead(sealed([]byte(want))); got != h || n != len(want)+4 || err != api.OK {
		t.Error(got, n, err)
	}
}

// P18.1: the chapter's second example, and images of no byte, of just some windows, of one less and one more.
func TestWindowsAndSizes(t *testing.T) {
	for _, c := range []struct {
		window, size int
		want         []int
	}{
		{64, 130, []int{64, 64, 2}},
		{64, 0, nil},
		{64, 1, []int{1}},
		{64, 63, []int{63}},
		{64, 64, []int{64}},
		{64, 65, []int{64, 1}},
		{64, 191, []int{64, 64, 63}},
		{64, 192, []int{64, 64, 64}},
		{64, 193, []int{64, 64, 64, 1}},
		{65, 130, []int{65, 65}},
		{65536, 65535, []int{65535}},
		{65536, 65536, []int{65536}},
		{65536, 65537, []int{65536, 1}},
	} {
		h := api.Head{New: c.size, Window: c.window, Look: 100}
		if n := frame.Windows(h); n != len(c.want) {
			t.Errorf("Windows(%v) = %d", h, n)
		}
		for i, want := range c.want {
			if n := frame.Size(h, i); n != want {
				t.Errorf("Size(%v, %d) = %d", h, i, n)
			}
		}
		for _, i := range []int{-1, len(c.want), len(c.want) + 1} {
			if n := frame.Size(h, i); n != 0 {
				t.Errorf("Size(%v, %d) = %d", h, i, n)
			}
		}
		holdHead(t, h)
	}
	h := api.Head{New: 1 << 24, Window: 64, Look: 1}
	if frame.Windows(h) != 1<<18 || frame.Size(h, 1<<18-1) != 64 || frame.Size(h, 1<<18) != 0 {
		t.Error("MaxImage bytes by 64")
	}
	h.New--
	if frame.Windows(h) != 1<<18 || frame.Size(h, 1<<18-1) != 63 {
		t.Error("MaxImage - 1 bytes by 64")
	}
}

// P18.1, P18.2: each number of a header at its edges, and at the ends of all numbers.
func TestEdgesOfHead(t *testing.T) {
	for h, may := range heads() {
		holdHead(t, h)
		want := api.ErrFrameHead
		if may {
			want = api.OK
		}
		if err := frame.Check(h); err != want {
			t.Errorf("Check(%v) = %v", h, err)
		}
		if b, err := frame.Head(h); err != want || may != (len(b) > 0) {
			t.Errorf("Head(%v) = % x, %v", h, b, err)
		}
		if !may && (frame.Windows(h) != 0 || frame.Size(h, 0) != 0) {
			t.Errorf("%v has windows", h)
		}
		if h.Old < 0 || h.New < 0 || h.Window < 0 || h.Look < 0 {
			continue
		}
		// What may not be can be written nevertheless, and is no header.
		want = api.ErrFrameForm
		if may {
			want = api.OK
		}
		if err := holdReadHead(t, headBytes(h)); err != want {
			t.Errorf("ReadHead of %v: %v", h, err)
		}
	}
}

// P18.1, R6: places whose product with a window goes beyond what an int holds have no size.
func TestSizeAtEnds(t *testing.T) {
	for _, window := range []int{64, 65, 100, 65536} {
		for _, size := range []int{0, 1, 64, 1000, 1 << 24} {
			h := api.Head{New: size, Window: window, Look: 5}
			n := len(sizesAll(h))
			for _, i := range append(ends(), math.MaxInt/window, math.MaxInt/window+1, math.MinInt/window, 2*(math.MaxInt/window), 1<<57, 1<<58, 1<<62) {
				if got := frame.Size(h, i); (i < 0 || i >= n) && got != 0 {
					t.Errorf("Size(%v, %d) = %d", h, i, got)
				}
			}
		}
	}
}

// P18.1, P18.2, P18.6: of drawn headers.
func TestHeadOfDrawn(t *testing.T) {
	r := rolls(1)
	for range 5000 {
		h := r.head()
		holdHead(t, h)
		b, _ := frame.Head(h)
		for range 5 {
			holdReadHead(t, r.bent(b))
			// The same with its sum made right, so that it is told apart from others by what it says.
			holdReadHead(t, sealed(r.bent(b[:len(b)-4])))
			holdReadHead(t, sealed(r.bent(r.bent(b[:len(b)-4]))))
		}
	}
}

// P18.2: a header's bytes, cut short at each place.
func TestHeadCutShort(t *testing.T) {
	for h, may := range heads() {
		if !may {
			continue
		}
		b := headBytes(h)
		for n := range b {
			if got, taken, err := frame.ReadHead(b[:n]); got != (api.Head{}) || taken != 0 || err != api.ErrFrameForm {
				t.Fatalf("the first %d bytes of % x: %v, %d, %v", n, b, got, taken, err)
			}
		}
		// Nor with a sum of what is there: the numbers and eight bytes must be.
		for n := range b[:len(b)-4] {
			if err := holdReadHead(t, sealed(b[:n])); err != api.ErrFrameForm {
				t.Fatalf("the first %d bytes of % x, and their sum: %v", n, b, err)
			}
		}
	}
}

// P18.2: each byte of a header is turned into each other one.
func TestHeadTurned(t *testing.T) {
	for _, h := range []api.Head{
		{Window: 64, Look: 100},
		{Old: 5, New: 300, OldSum: 7, NewSum: 1 << 31, Window: 65536, Look: 1},
	} {
		b := headBytes(h)
		for at := range b {
			for mask := 1; mask < 256; mask++ {
				turned := slices.Clone(b)
				turned[at] ^= byte(mask)
				err := holdReadHead(t, turned)
				want := api.ErrFrameSum
				if at < 5 {
					want = api.ErrFrameForm
				}
				if (at < 5 || at >= len(b)-12) && err != want || err == api.OK {
					t.Fatalf("byte %d with %x: %v", at, mask, err)
				}
			}
		}
	}
}

// P18.2: numbers that are in a longer form, too long, too great; each with a right sum, and with a wrong one, which is not told.
func TestNumbersOfHead(t *testing.T) {
	for _, l := range [][4]int{{0, 0, 64, 100}, {127, 128, 1000, 1}, {1 << 24, 1 << 24, 65536, 32768}} {
		for k := range 4 {
			longer := shortest(l[k])
			longer[len(longer)-1] |= 128
			for name, wrong := range map[string][]byte{
				"a longer form":        append(slices.Clone(longer), 0),
				"a much longer form":   append(slices.Clone(longer), 0x80, 0x80, 0),
				"2^63":                 append(slices.Repeat([]byte{0x80}, 9), 1),
				"2^64 - 1":             append(slices.Repeat([]byte{0xff}, 9), 1),
				"2^32 more":            shortest(l[k] + 1<<32),
				"2^56 more":            shortest(l[k] + 1<<56),
				"ten bytes that go on": slices.Repeat([]byte{0xff}, 10),
				"a tenth byte 2":       append(slices.Repeat([]byte{0x80}, 9), 2),
			} {
				parts := [][]byte{[]byte("SAPR\x01"), shortest(l[0]), shortest(l[1]), shortest(l[2]), shortest(l[3]), make([]byte, 8)}
				if err := holdReadHead(t, sealed(parts...)); err != api.OK {
					t.Fatalf("%v: %v", l, err)
				}
				parts[k+1] = wrong
				b := sealed(parts...)
				if err := holdReadHead(t, b); err != api.ErrFrameForm {
					t.Errorf("%v, number %d, %s: %v", l, k, name, err)
				}
				b[len(b)-1] ^= 1
				if err := holdReadHead(t, b); err != api.ErrFrameForm {
					t.Errorf("%v, number %d, %s, and another sum: %v", l, k, name, err)
				}
			}
		}
	}
}

// P18.2: where both a number and the sum are wrong it is no header; where the sum alone is, it is that; bytes behind are not looked at.
func TestFormAheadOfSum(t *testing.T) {
	h := api.Head{Old: 5, New: 3, OldSum: 9, NewSum: 8, Window: 64, Look: 100}
	for _, c := range []struct {
		bend func(h *api.Head)
		want api.Errno
	}{
		{func(h *api.Head) {}, api.ErrFrameSum},
		{func(h *api.Head) { h.OldSum++ }, api.ErrFrameSum},
		{func(h *api.Head) { h.NewSum++ }, api.ErrFrameSum},
		{func(h *api.Head) { h.Old = 1<<24 + 1 }, api.ErrFrameForm},
		{func(h *api.Head) { h.New = 1<<24 + 1 }, api.ErrFrameForm},
		{func(h *api.Head) { h.Window = 63 }, api.ErrFrameForm},
		{func(h *api.Head) { h.Window = 65537 }, api.ErrFrameForm},
		{func(h *api.Head) { h.Look = 0 }, api.ErrFrameForm},
		{func(h *api.Head) { h.Look = 32769 }, api.ErrFrameForm},
	} {
		h := h
		c.bend(&h)
		b := headBytes(h)
		for bit := range 32 {
			b := slices.Clone(b)
			b[len(b)-4+bit/8] ^= 1 << (bit % 8)
			if err := holdReadHead(t, b); err != c.want {
				t.Errorf("%v, bit %d of the sum turned: %v", h, bit, err)
			}
			if err := holdReadHead(t, append(b, 1, 2, 3)); err != c.want {
				t.Errorf("%v, bit %d of the sum turned, and more behind it: %v", h, bit, err)
			}
		}
	}
	// Another magic with its right sum.
	for at := range 5 {
		b := headBytes(h)
		b = b[:len(b)-4]
		b[at] ^= 0x20
		if err := holdReadHead(t, sealed(b)); err != api.ErrFrameForm {
			t.Errorf("byte %d: %v", at, err)
		}
	}
}

// P18.2: of bytes that are drawn, and of all rows of few bytes behind the magic.
func TestReadHeadOfAnything(t *testing.T) {
	r := rolls(2)
	for range 20000 {
		holdReadHead(t, r.data(r.below(40)))
		holdReadHead(t, append([]byte("SAPR\x01"), r.data(r.below(40))...))
		holdReadHead(t, sealed([]byte("SAPR\x01"), r.data(8+r.below(16))))
	}
	for a := range 256 {
		for b := range 256 {
			holdReadHead(t, sealed([]byte("SAPR\x01"), []byte{byte(a), byte(b), 64, 1}, make([]byte, 8)))
			holdReadHead(t, sealed([]byte("SAPR\x01\x00\x00"), []byte{byte(a), byte(b), 1}, make([]byte, 8)))
			holdReadHead(t, sealed([]byte("SAPR\x01\x00\x00\x40"), []byte{byte(a), byte(b)}, make([]byte, 8)))
		}
	}
}
