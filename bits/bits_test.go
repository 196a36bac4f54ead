package bits_test

import (
	"bytes"
	"math"
	"slices"
	"testing"

	"sapper/api"
	"sapper/bits"
)

const atOnce = 56 // the most bits of one call

// rolls: numbers that follow no pattern and are the same at each run.
type rolls uint64

func (r *rolls) word() uint64 {
	high := r.step()
	return high<<32 | r.step()
}

func (r *rolls) step() uint64 {
	*r = *r*6364136223846793005 + 1442695040888963407
	return uint64(*r >> 32)
}

// below: a number from 0 on, below n.
func (r *rolls) below(n int) int { return int(r.step() % uint64(n)) }

// text: so many bytes of them.
func (r *rolls) text(size int) []byte {
	out := make([]byte, size)
	for i := range out {
		out[i] = byte(r.step())
	}
	return out
}

// spread: the n low bits of v one by one, the lowest first.
func spread(v uint64, n int) []byte {
	out := make([]byte, n)
	for i := range out {
		out[i] = byte(v & 1)
		v >>= 1
	}
	return out
}

// number: the number whose bit i is the i-th of these.
func number(row []byte) uint64 {
	out := uint64(0)
	for i := len(row) - 1; i >= 0; i-- {
		out = 2*out + uint64(row[i])
	}
	return out
}

// packed: bit i in byte i / 8 as its bit i modulo 8.
func packed(row []byte) []byte {
	out := make([]byte, (len(row)+7)/8)
	for i, b := range row {
		if b == 1 {
			out[i/8] += 1 << (i % 8)
		}
	}
	return out
}

// loose: the bits of bytes one by one.
func loose(p []byte) []byte {
	var out []byte
	for _, b := range p {
		out = append(out, spread(uint64(b), 8)...)
	}
	return out
}

// padded: how many bits are missing up to a byte's end, counted one by one.
func padded(n int) int {
	out := 0
	for (n+out)%8 != 0 {
		out++
	}
	return out
}

// values: of n bits, both ends and some between.
func values(n int) []uint64 {
	out := []uint64{0}
	if n == 0 {
		return out
	}
	most := uint64(math.MaxUint64) >> (64 - n)
	return append(out, 1, most, most-1, most/2, most/2+1, most/3, 0x9d3b_71c5_e026_f84a&most)
}

// wrongCounts: what is no count of bits for one call.
func wrongCounts() []int {
	return []int{-1, -2, -8, -64, math.MinInt, atOnce + 1, 63, 64, 65, 128, 256, 1 << 32, math.MaxInt}
}

// ahead: a Writer with n bits 1.
func ahead(t *testing.T, n int) (*bits.Writer, []byte) {
	t.Helper()
	w := &bits.Writer{}
	for range n {
		well(t, w.Put(1, 1))
	}
	return w, bytes.Repeat([]byte{1}, n)
}

func well(t *testing.T, err api.Errno) {
	t.Helper()
	if err != api.OK {
		t.Fatalf("error %d", int(err))
	}
}

// written: the Writer has just these bits.
func written(t *testing.T, w *bits.Writer, row []byte) {
	t.Helper()
	if w.Len() != len(row) {
		t.Fatalf("Len: %d, not %d", w.Len(), len(row))
	}
	if got, want := w.Bytes(), packed(row); !bytes.Equal(got, want) {
		t.Fatalf("Bytes: %x, not %x", got, want)
	}
}

// holds: the Reader has just these bits, and so many are gone.
func holds(t *testing.T, r *bits.Reader, row []byte, gone int) {
	t.Helper()
	if r.Has() != len(row) || r.Taken() != gone || r.Space() != (64-len(row))/8 {
		t.Fatalf("Has %d, Taken %d, Space %d: not %d, %d, %d", r.Has(), r.Taken(), r.Space(), len(row), gone, (64-len(row))/8)
	}
	for n := range min(len(row), atOnce) + 1 {
		if v, ok := r.Peek(n); !ok || v != number(row[:n]) {
			t.Fatalf("Peek(%d): %x, %v, not %x", n, v, ok, number(row[:n]))
		}
	}
	// By two looks, those that no Peek sees at one time, too.
	if copied := *r; len(row) > atOnce {
		copied.Take(atOnce)
		if v, ok := copied.Take(len(row) - atOnce); !ok || v != number(row[atOnce:]) {
			t.Fatalf("the last bits: %x, %v, not %x", v, ok, number(row[atOnce:]))
		}
	}
}

// fed: a Reader with the bits of these bytes, less the first so many.
func fed(t *testing.T, p []byte, less int) (*bits.Reader, []byte) {
	t.Helper()
	r := &bits.Reader{}
	if n := r.Feed(p); n != len(p) {
		t.Fatalf("Feed: %d of %d", n, len(p))
	}
	for range less {
		if _, ok := r.Take(1); !ok {
			t.Fatal("Take(1)")
		}
	}
	return r, loose(p)[less:]
}

// The chapter's examples.

func TestExample1(t *testing.T) {
	var w, turned, put bits.Writer
	well(t, w.Put(5, 3))
	well(t, w.Put(1, 2))
	written(t, &w, []byte{1, 0, 1, 1, 0})
	if got := w.Bytes(); !bytes.Equal(got, []byte{0x0d}) {
		t.Errorf("%x", got)
	}
	well(t, turned.Turned(6, 3))
	well(t, put.Put(3, 3))
	written(t, &turned, []byte{1, 1, 0})
	written(t, &put, []byte{1, 1, 0})
}

func TestExample2(t *testing.T) {
	var w bits.Writer
	if err := w.Put(8, 3); err != api.ErrBitsValue {
		t.Errorf("Put(8, 3): %d", int(err))
	}
	if err := w.Put(0, 57); err != api.ErrBitsCount {
		t.Errorf("Put(0, 57): %d", int(err))
	}
	well(t, w.Put(0, 0))
	written(t, &w, nil)
}

func TestExample3(t *testing.T) {
	var w bits.Writer
	well(t, w.Put(1, 1))
	w.Whole(0xff)
	if got := w.Bytes(); !bytes.Equal(got, []byte{0x01, 0xff}) || w.Len() != 16 {
		t.Errorf("%x, Len %d", got, w.Len())
	}
}

func TestExample4(t *testing.T) {
	var r bits.Reader
	if n := r.Feed([]byte{0x0d, 0xff}); n != 2 || r.Has() != 16 {
		t.Errorf("Feed: %d, Has %d", n, r.Has())
	}
	take := func(n int, want uint64) {
		t.Helper()
		if v, ok := r.Take(n); v != want || !ok {
			t.Errorf("Take(%d): %d, %v", n, v, ok)
		}
	}
	take(3, 5)
	take(2, 1)
	if n, v := r.Align(); n != 3 || v != 0 {
		t.Errorf("Align: %d, %d", n, v)
	}
	take(8, 255)
	if v, ok := r.Take(1); v != 0 || ok || r.Taken() != 16 {
		t.Errorf("Take(1): %d, %v, Taken %d", v, ok, r.Taken())
	}
}

func TestExample5(t *testing.T) {
	var r bits.Reader
	if n := r.Feed(make([]byte, 10)); n != 8 || r.Space() != 0 {
		t.Errorf("Feed: %d, Space %d", n, r.Space())
	}
	r.Take(7)
	if r.Space() != 0 {
		t.Errorf("behind Take(7): Space %d", r.Space())
	}
	r.Take(1)
	if r.Space() != 1 {
		t.Errorf("behind Take(1): Space %d", r.Space())
	}
}

func TestExample6(t *testing.T) {
	if v := bits.Flip(6, 3); v != 3 {
		t.Errorf("Flip(6, 3): %d", v)
	}
	if v := bits.Flip(1, 64); v != 1<<63 {
		t.Errorf("Flip(1, 64): %x", v)
	}
	if v := bits.Flip(5, 0); v != 0 {
		t.Errorf("Flip(5, 0): %d", v)
	}
}

// P3.1: the Writer.

func TestWriterWithoutBits(t *testing.T) {
	var w bits.Writer
	written(t, &w, nil)
	if n := w.Align(); n != 0 {
		t.Errorf("Align: %d", n)
	}
	written(t, &w, nil)
}

func TestPutAndTurned(t *testing.T) {
	for before := range 17 {
		for n := range atOnce + 1 {
			for _, v := range values(n) {
				w, row := ahead(t, before)
				well(t, w.Put(v, n))
				row = append(row, spread(v, n)...)
				written(t, w, row)
				well(t, w.Turned(v, n))
				turned := spread(v, n)
				slices.Reverse(turned)
				written(t, w, append(row, turned...))
			}
		}
	}
}

// refused: both calls answer this, and the Writer is as it was.
func refused(t *testing.T, v uint64, n int, want api.Errno) {
	t.Helper()
	for before := range 9 {
		w, row := ahead(t, before)
		if err := w.Put(v, n); err != want {
			t.Errorf("Put(%x, %d): %d, not %d", v, n, int(err), int(want))
		}
		if err := w.Turned(v, n); err != want {
			t.Errorf("Turned(%x, %d): %d, not %d", v, n, int(err), int(want))
		}
		written(t, w, row)
		well(t, w.Put(5, 3))
		written(t, w, append(row, 1, 0, 1))
	}
}

func TestPutRefusesCounts(t *testing.T) {
	for _, n := range wrongCounts() {
		// The count is what is told, even where the value could not be either.
		for _, v := range []uint64{0, 1, math.MaxUint64} {
			refused(t, v, n, api.ErrBitsCount)
		}
	}
}

func TestPutRefusesValues(t *testing.T) {
	for n := range atOnce + 1 {
		for _, v := range []uint64{1 << n, 1<<n + 1, 1 << 63, math.MaxUint64} {
			refused(t, v, n, api.ErrBitsValue)
		}
	}
}

func TestWriterAlign(t *testing.T) {
	for before := range 30 {
		w, row := ahead(t, before)
		if n := w.Align(); n != padded(before) {
			t.Fatalf("%d bits: Align: %d", before, n)
		}
		row = append(row, make([]byte, padded(before))...)
		written(t, w, row)
		if n := w.Align(); n != 0 {
			t.Fatalf("%d bits: Align once more: %d", before, n)
		}
		well(t, w.Put(3, 2))
		written(t, w, append(row, 1, 1))
	}
}

func TestWhole(t *testing.T) {
	for before := range 20 {
		for _, p := range [][]byte{nil, {}, {0}, {0xff}, {0x80, 0x01}, {1, 2, 3, 0x9d, 0xfe}} {
			w, row := ahead(t, before)
			w.Whole(p...)
			row = append(row, make([]byte, padded(before))...)
			row = append(row, loose(p)...)
			written(t, w, row)
			well(t, w.Put(1, 1))
			written(t, w, append(row, 1))
		}
	}
	w, row := ahead(t, 3)
	w.Whole()
	written(t, w, append(row, 0, 0, 0, 0, 0))
}

func TestWriterRow(t *testing.T) {
	r := rolls(1)
	for range 50 {
		var w bits.Writer
		var row []byte
		for range 100 {
			n := r.below(atOnce + 1)
			v := number(spread(r.word(), n))
			switch r.below(8) {
			case 0:
				p := r.text(r.below(20))
				w.Whole(p...)
				row = append(row, make([]byte, padded(len(row)))...)
				row = append(row, loose(p)...)
			case 1:
				if got := w.Align(); got != padded(len(row)) {
					t.Fatalf("Align: %d", got)
				}
				row = append(row, make([]byte, padded(len(row)))...)
			case 2, 3:
				well(t, w.Turned(v, n))
				turned := spread(v, n)
				slices.Reverse(turned)
				row = append(row, turned...)
			default:
				well(t, w.Put(v, n))
				row = append(row, spread(v, n)...)
			}
			written(t, &w, row)
		}
	}
}

// P3.2: the Reader.

func TestReaderWithoutBits(t *testing.T) {
	var r bits.Reader
	holds(t, &r, nil, 0)
	if n, v := r.Align(); n != 0 || v != 0 {
		t.Errorf("Align: %d, %d", n, v)
	}
	if v, ok := r.Take(0); v != 0 || !ok {
		t.Errorf("Take(0): %d, %v", v, ok)
	}
	if v, ok := r.Peek(1); v != 0 || ok {
		t.Errorf("Peek(1): %d, %v", v, ok)
	}
	holds(t, &r, nil, 0)
}

// Feed of none, of fewer than there is room for, of just as many, and of more, behind each count of bits held.
func TestFeed(t *testing.T) {
	gen := rolls(2)
	for size := range 9 {
		for less := range 8*size + 1 {
			held := gen.text(size)
			for more := range 12 {
				r, row := fed(t, held, less)
				p := gen.text(more)
				took := min((64-len(row))/8, more)
				if n := r.Feed(p); n != took {
					t.Fatalf("%d bits, %d bytes: Feed: %d, not %d", len(row), more, n, took)
				}
				holds(t, r, append(row, loose(p[:took])...), less)
			}
		}
	}
	var r bits.Reader
	if n := r.Feed(nil); n != 0 {
		t.Errorf("Feed(nil): %d", n)
	}
	holds(t, &r, nil, 0)
}

func TestPeekAndTake(t *testing.T) {
	gen := rolls(3)
	for size := range 9 {
		for less := range 8*size + 1 {
			held := gen.text(size)
			for n := range 66 {
				r, row := fed(t, held, less)
				want, there := uint64(0), n <= min(len(row), atOnce)
				if there {
					want = number(row[:n])
				}
				if v, ok := r.Peek(n); v != want || ok != there {
					t.Fatalf("%d bits: Peek(%d): %x, %v", len(row), n, v, ok)
				}
				holds(t, r, row, less)
				if v, ok := r.Take(n); v != want || ok != there {
					t.Fatalf("%d bits: Take(%d): %x, %v", len(row), n, v, ok)
				}
				if there {
					holds(t, r, row[n:], less+n)
				} else {
					holds(t, r, row, less)
				}
			}
		}
	}
}

// A Reader that is full holds the bits, but they do not go at one time.
func TestPeekAndTakeOfAllBits(t *testing.T) {
	full := bytes.Repeat([]byte{0xff}, 8)
	r, row := fed(t, full, 0)
	if v, ok := r.Peek(atOnce); v != 1<<56-1 || !ok {
		t.Errorf("Peek(56): %x, %v", v, ok)
	}
	for n := atOnce + 1; n <= 64; n++ {
		if v, ok := r.Take(n); v != 0 || ok {
			t.Errorf("Take(%d): %x, %v", n, v, ok)
		}
	}
	holds(t, r, row, 0)
	if v, ok := r.Take(atOnce); v != 1<<56-1 || !ok {
		t.Errorf("Take(56): %x, %v", v, ok)
	}
	holds(t, r, row[atOnce:], atOnce)
	if v, ok := r.Take(8); v != 255 || !ok {
		t.Errorf("Take(8): %x, %v", v, ok)
	}
	holds(t, r, nil, 64)
}

// Bytes come whole, so that a Reader that has begun a byte holds all that is left of it: Align never asks for more.
func TestReaderAlign(t *testing.T) {
	gen := rolls(4)
	for size := range 9 {
		for less := range 8*size + 1 {
			for _, held := range [][]byte{gen.text(size), bytes.Repeat([]byte{0xff}, size), make([]byte, size)} {
				r, row := fed(t, held, less)
				want := padded(less)
				if n, v := r.Align(); n != want || v != number(row[:want]) {
					t.Fatalf("%d gone of %x: Align: %d, %x", less, held, n, v)
				}
				holds(t, r, row[want:], less+want)
				if n, v := r.Align(); n != 0 || v != 0 {
					t.Fatalf("Align once more: %d, %x", n, v)
				}
				holds(t, r, row[want:], less+want)
			}
		}
	}
}

// P3.3: Flip.

func TestFlip(t *testing.T) {
	gen := rolls(5)
	words := []uint64{0, 1, 1 << 63, math.MaxUint64, 0x5555555555555555}
	for range 20 {
		words = append(words, gen.word())
	}
	for _, v := range words {
		for n := 1; n <= 64; n++ {
			row := spread(v, n)
			slices.Reverse(row)
			if got := bits.Flip(v, n); got != number(row) {
				t.Fatalf("Flip(%x, %d): %x, not %x", v, n, got, number(row))
			}
			if got := bits.Flip(bits.Flip(v, n), n); got != number(spread(v, n)) {
				t.Fatalf("Flip(%x, %d) twice: %x", v, n, got)
			}
		}
		for _, n := range []int{65, 66, 127, 128, 1 << 32, math.MaxInt} {
			if got := bits.Flip(v, n); got != bits.Flip(v, 64) {
				t.Fatalf("Flip(%x, %d): %x", v, n, got)
			}
		}
		for _, n := range []int{0, -1, -64, math.MinInt} {
			if got := bits.Flip(v, n); got != 0 {
				t.Fatalf("Flip(%x, %d): %x", v, n, got)
			}
		}
	}
	if got := bits.Flip(3, 1); got != 1 {
		t.Errorf("Flip(3, 1): %d", got)
	}
	if got := bits.Flip(2, 1); got != 0 {
		t.Errorf("Flip(2, 1): %d", got)
	}
}

// P3.4: what is laid down is taken up, in whatever pieces the bytes are fed.
func TestRoundTrip(t *testing.T) {
	gen := rolls(6)
	for range 200 {
		var w bits.Writer
		var counts []int
		var wanted []uint64
		for range gen.below(60) {
			n := gen.below(atOnce + 1)
			v := number(spread(gen.word(), n))
			well(t, w.Put(v, n))
			counts, wanted = append(counts, n), append(wanted, v)
		}
		for most := 1; most < 20; most++ {
			takenUp(t, &gen, w.Bytes(), most, counts, wanted)
		}
	}
}

// takenUp: the bytes are handed in pieces of at most so many (empty ones, too) whenever the Reader waits.
func takenUp(t *testing.T, gen *rolls, p []byte, most int, counts []int, wanted []uint64) {
	t.Helper()
	var r bits.Reader
	sum := 0
	for i, n := range counts {
		for r.Has() < n {
			if v, ok := r.Take(n); v != 0 || ok {
				t.Fatalf("Take(%d) of %d: %x, %v", n, r.Has(), v, ok)
			}
			if len(p) == 0 {
				t.Fatalf("no bytes for the %d bits at %d", n, sum)
			}
			p = p[r.Feed(p[:min(gen.below(most+1), len(p))]):]
		}
		if v, ok := r.Take(n); v != wanted[i] || !ok {
			t.Fatalf("Take(%d): %x, %v, not %x", n, v, ok, wanted[i])
		}
		sum += n
		if r.Taken() != sum {
			t.Fatalf("Taken %d, not %d", r.Taken(), sum)
		}
	}
}

// P3.5
func TestTurnedIsPutOfFlip(t *testing.T) {
	for before := range 9 {
		for n := range atOnce + 1 {
			for _, v := range values(n) {
				a, _ := ahead(t, before)
				b, _ := ahead(t, before)
				well(t, a.Turned(v, n))
				well(t, b.Put(bits.Flip(v, n), n))
				if a.Len() != b.Len() || !bytes.Equal(a.Bytes(), b.Bytes()) {
					t.Fatalf("Turned(%x, %d): %x, not %x", v, n, a.Bytes(), b.Bytes())
				}
			}
		}
	}
}

// P3.6 and P3.7, by any row of calls: bits are held or gone, and a Take that is false changes nothing.
func TestNoBitIsLost(t *testing.T) {
	gen := rolls(7)
	for range 100 {
		var r bits.Reader
		var row []byte
		gone, came := 0, 0
		for range 200 {
			switch gen.below(4) {
			case 0, 1:
				p := gen.text(gen.below(11))
				n := r.Feed(p)
				if n != min(len(p), (64-len(row))/8) {
					t.Fatalf("Feed: %d", n)
				}
				row, came = append(row, loose(p[:n])...), came+n
			case 2:
				n := gen.below(60) - 2
				v, ok := r.Take(n)
				if ok != (n >= 0 && n <= min(len(row), atOnce)) {
					t.Fatalf("Take(%d) of %d: %v", n, len(row), ok)
				}
				if ok {
					if v != number(row[:n]) {
						t.Fatalf("Take(%d): %x", n, v)
					}
					row, gone = row[n:], gone+n
				}
			default:
				n, v := r.Align()
				if n != padded(gone) || v != number(row[:n]) {
					t.Fatalf("Align: %d, %x", n, v)
				}
				row, gone = row[n:], gone+n
			}
			holds(t, &r, row, gone)
			if 8*came != r.Has()+r.Taken() {
				t.Fatalf("%d bytes: Has %d, Taken %d", came, r.Has(), r.Taken())
			}
		}
	}
}

// P3.7
func TestTakeThatIsFalse(t *testing.T) {
	gen := rolls(8)
	for size := range 9 {
		for less := range 8*size + 1 {
			r, row := fed(t, gen.text(size), less)
			for _, n := range append(wrongCounts(), len(row)+1) {
				if v, ok := r.Peek(n); v != 0 || ok {
					t.Fatalf("%d bits: Peek(%d): %x, %v", len(row), n, v, ok)
				}
				if v, ok := r.Take(n); v != 0 || ok {
					t.Fatalf("%d bits: Take(%d): %x, %v", len(row), n, v, ok)
				}
				holds(t, r, row, less)
			}
		}
	}
}

// R1, R5: nil is made by no call.

func TestNilWriter(t *testing.T) {
	var w *bits.Writer
	for _, n := range append(wrongCounts(), 0, 1, 56) {
		for _, v := range []uint64{0, 1, math.MaxUint64} {
			if err := w.Put(v, n); err != api.ErrMade {
				t.Errorf("Put(%x, %d): %d", v, n, int(err))
			}
			if err := w.Turned(v, n); err != api.ErrMade {
				t.Errorf("Turned(%x, %d): %d", v, n, int(err))
			}
		}
	}
	w.Whole()
	w.Whole(1, 2, 3)
	if n := w.Align(); n != 0 {
		t.Errorf("Align: %d", n)
	}
	if n := w.Len(); n != 0 {
		t.Errorf("Len: %d", n)
	}
	if p := w.Bytes(); len(p) != 0 {
		t.Errorf("Bytes: %x", p)
	}
}

func TestNilReader(t *testing.T) {
	var r *bits.Reader
	for _, p := range [][]byte{nil, {}, {1}, make([]byte, 9)} {
		if n := r.Feed(p); n != 0 {
			t.Errorf("Feed(%x): %d", p, n)
		}
	}
	if r.Space() != 0 || r.Has() != 0 || r.Taken() != 0 {
		t.Errorf("Space %d, Has %d, Taken %d", r.Space(), r.Has(), r.Taken())
	}
	for _, n := range append(wrongCounts(), 0, 1, 56) {
		if v, ok := r.Peek(n); v != 0 || ok {
			t.Errorf("Peek(%d): %x, %v", n, v, ok)
		}
		if v, ok := r.Take(n); v != 0 || ok {
			t.Errorf("Take(%d): %x, %v", n, v, ok)
		}
	}
	if n, v := r.Align(); n != 0 || v != 0 {
		t.Errorf("Align: %d, %x", n, v)
	}
}

// R3: what is handed in is neither changed nor kept, and an answer is new memory.

// roomy: bytes with room behind their end, all of which is to stay as it is.
func roomy() (all, p []byte) {
	all = []byte{1, 2, 3, 4, 0xaa, 0xbb, 0xcc, 0xdd}
	return all, all[:4]
}

func TestWholeKeepsNothing(t *testing.T) {
	all, p := roomy()
	was := slices.Clone(all)
	var w bits.Writer
	w.Whole(p...)
	well(t, w.Put(0x77, 8))
	w.Whole(9, 9, 9)
	if !bytes.Equal(all, was) {
		t.Errorf("handed in: %x", all)
	}
	clear(all)
	if got := w.Bytes(); !bytes.Equal(got, []byte{1, 2, 3, 4, 0x77, 9, 9, 9}) {
		t.Errorf("Bytes: %x", got)
	}
}

func TestFeedKeepsNothing(t *testing.T) {
	all, p := roomy()
	was := slices.Clone(all)
	var r bits.Reader
	r.Feed(p)
	r.Take(5)
	if !bytes.Equal(all, was) {
		t.Errorf("handed in: %x", all)
	}
	clear(all)
	holds(t, &r, loose(was[:4])[5:], 5)
}

func TestBytesAreNewMemory(t *testing.T) {
	for before := range 40 {
		w, row := ahead(t, before)
		a, b := w.Bytes(), w.Bytes()
		was := slices.Clone(a)
		spoil(b)
		if !bytes.Equal(a, was) {
			t.Fatalf("%d bits: two answers share memory", before)
		}
		written(t, w, row)
		spare := slices.Clone(a[:cap(a)])
		well(t, w.Put(0, 20))
		w.Whole(0xff, 0xff)
		if !bytes.Equal(a[:cap(a)], spare) {
			t.Fatalf("%d bits: an answer has changed", before)
		}
		row = append(row, make([]byte, 20+padded(before+20))...)
		row = append(row, bytes.Repeat([]byte{1}, 16)...)
		written(t, w, row)
		spoil(a)
		written(t, w, row)
	}
}

// spoil: writes over an answer, and over the room behind it.
func spoil(p []byte) {
	p = p[:cap(p)]
	for i := range p {
		p[i] ^= 0x5a
	}
}

// R4: two objects know nothing of each other.
func TestApart(t *testing.T) {
	var a, b bits.Writer
	well(t, a.Put(1, 1))
	well(t, b.Put(2, 2))
	a.Whole(7)
	written(t, &a, append([]byte{1, 0, 0, 0, 0, 0, 0, 0}, spread(7, 8)...))
	written(t, &b, []byte{0, 1})
	var r, s bits.Reader
	r.Feed([]byte{1})
	s.Feed([]byte{2, 3})
	r.Take(4)
	holds(t, &r, []byte{0, 0, 0, 0}, 4)
	holds(t, &s, loose([]byte{2, 3}), 0)
}
