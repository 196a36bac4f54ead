package num_test

import (
	"bytes"
	"math"
	"math/big"
	"testing"

	"sapper/api"
	"sapper/num"
)

const greatest = math.MaxUint64

// ones: nine bytes of seven set bits, each with another byte to follow.
func ones(last ...byte) []byte {
	return append(bytes.Repeat([]byte{0xff}, 9), last...)
}

// edges: each power of two and its neighbours, where the forms grow by a byte.
func edges() []uint64 {
	out := []uint64{0, 300, 0x0102030405060708}
	for i := range 64 {
		p := uint64(1) << i
		out = append(out, p-1, p, p+1)
	}
	return append(out, greatest-1, greatest)
}

// shortest: the form as the chapter tells it, by division of great integers.
func shortest(v uint64) []byte {
	rest := new(big.Int).SetUint64(v)
	base := big.NewInt(128)
	var out []byte
	for {
		group := new(big.Int)
		rest.DivMod(rest, base, group)
		if rest.Sign() == 0 {
			return append(out, byte(group.Int64()))
		}
		out = append(out, byte(group.Int64())+128)
	}
}

// told: what Decode must answer, by the chapter's words, byte by byte.
func told(b []byte) (uint64, int, api.Errno) {
	sum, weight := new(big.Int), big.NewInt(1)
	for i := 0; ; i++ {
		switch {
		case i >= len(b):
			return 0, 0, api.ErrNumShort
		case i == 9 && b[i] > 1:
			return 0, 0, api.ErrNumLong
		case i != 0 && b[i] == 0:
			return 0, 0, api.ErrNumForm
		}
		group := new(big.Int).Mul(big.NewInt(int64(b[i]%128)), weight)
		sum.Add(sum, group)
		weight.Mul(weight, big.NewInt(128))
		if b[i] < 128 {
			return sum.Uint64(), i + 1, api.OK
		}
	}
}

// samples: lists of bytes of every length up to 22, among which every form and every fault occurs.
func samples() [][]byte {
	out := [][]byte{nil, {}, ones(0), ones(1), ones(2), ones(0x80), ones(0x81), ones(0xff), ones(0xff, 0xff), ones(1, 7)}
	for a := range 256 {
		out = append(out, []byte{byte(a)})
		for b := range 256 {
			out = append(out, []byte{byte(a), byte(b)})
		}
	}
	kinds := []byte{0x00, 0x01, 0x02, 0x7f, 0x80, 0x81, 0xff, 0xff, 0xff, 0xff, 0x80, 0x80}
	state := uint32(1)
	for i := range 40000 {
		l := make([]byte, i%23)
		for j := range l {
			state = state*1664525 + 1013904223
			l[j] = kinds[int(state>>16)%len(kinds)]
		}
		out = append(out, l)
	}
	return out
}

// P1.1
func TestFixed(t *testing.T) {
	for _, c := range []struct {
		v    uint64
		size int
		want []byte
		err  api.Errno
	}{
		{258, 2, []byte{2, 1}, api.OK},
		{258, 1, nil, api.ErrNumLong},
		{0, 1, []byte{0}, api.OK},
		{255, 1, []byte{255}, api.OK},
		{256, 1, nil, api.ErrNumLong},
		{1, 8, []byte{1, 0, 0, 0, 0, 0, 0, 0}, api.OK},
		{0x0102030405060708, 8, []byte{8, 7, 6, 5, 4, 3, 2, 1}, api.OK},
		{greatest, 8, bytes.Repeat([]byte{255}, 8), api.OK},
		{greatest, 7, nil, api.ErrNumLong},
		{1<<56 - 1, 7, bytes.Repeat([]byte{255}, 7), api.OK},
		{1 << 56, 7, nil, api.ErrNumLong},
		{0, 0, nil, api.ErrArg},
		{0, 9, nil, api.ErrArg},
		{greatest, 0, nil, api.ErrArg},
		{0, -1, nil, api.ErrArg},
		{0, math.MinInt, nil, api.ErrArg},
		{0, math.MaxInt, nil, api.ErrArg},
	} {
		got, err := num.Fixed(c.v, c.size)
		if err != c.err || !bytes.Equal(got, c.want) {
			t.Errorf("Fixed(%d, %d): %x, %d; want %x, %d", c.v, c.size, got, err, c.want, c.err)
		}
	}
}

// P1.1
func TestUnfix(t *testing.T) {
	for _, c := range []struct {
		b    []byte
		size int
		want uint64
		err  api.Errno
	}{
		{[]byte{2, 1, 7}, 2, 258, api.OK},
		{[]byte{2, 1}, 2, 258, api.OK},
		{[]byte{2}, 2, 0, api.ErrNumShort},
		{nil, 1, 0, api.ErrNumShort},
		{[]byte{}, 8, 0, api.ErrNumShort},
		{make([]byte, 7), 8, 0, api.ErrNumShort},
		{[]byte{9}, 1, 9, api.OK},
		{[]byte{8, 7, 6, 5, 4, 3, 2, 1, 99}, 8, 0x0102030405060708, api.OK},
		{bytes.Repeat([]byte{255}, 8), 8, greatest, api.OK},
		{[]byte{1, 2, 3}, 0, 0, api.ErrArg},
		{make([]byte, 9), 9, 0, api.ErrArg},
		{nil, 0, 0, api.ErrArg},
		{nil, -1, 0, api.ErrArg},
		{nil, math.MaxInt, 0, api.ErrArg},
		{nil, math.MinInt, 0, api.ErrArg},
	} {
		got, err := num.Unfix(c.b, c.size)
		if err != c.err || got != c.want {
			t.Errorf("Unfix(%x, %d): %d, %d; want %d, %d", c.b, c.size, got, err, c.want, c.err)
		}
	}
}

// P1.2
func TestEncode(t *testing.T) {
	for _, c := range []struct {
		l    []uint64
		want []byte
	}{
		{nil, nil},
		{[]uint64{}, nil},
		{[]uint64{0}, []byte{0}},
		{[]uint64{0, 127, 128, 300}, []byte{0x00, 0x7f, 0x80, 0x01, 0xac, 0x02}},
		{[]uint64{16383, 16384}, []byte{0xff, 0x7f, 0x80, 0x80, 0x01}},
		{[]uint64{1<<63 - 1}, append(bytes.Repeat([]byte{0xff}, 8), 0x7f)},
		{[]uint64{greatest}, ones(1)},
	} {
		got := num.Encode(c.l...)
		if !bytes.Equal(got, c.want) {
			t.Errorf("Encode(%d): %x, want %x", c.l, got, c.want)
		}
		if n := num.Size(c.l...); n != len(c.want) {
			t.Errorf("Size(%d): %d, want %d", c.l, n, len(c.want))
		}
	}
}

// P1.2
func TestEncodeAtEdges(t *testing.T) {
	var row []byte
	for _, v := range edges() {
		want := shortest(v)
		row = append(row, want...)
		if got := num.Encode(v); !bytes.Equal(got, want) {
			t.Errorf("Encode(%d): %x, want %x", v, got, want)
		}
		if n := num.Size(v); n != len(want) {
			t.Errorf("Size(%d): %d, want %d", v, n, len(want))
		}
	}
	if got := num.Encode(edges()...); !bytes.Equal(got, row) {
		t.Errorf("Encode of all: %x, want %x", got, row)
	}
	if n := num.Size(edges()...); n != len(row) {
		t.Errorf("Size of all: %d, want %d", n, len(row))
	}
}

// P1.3
func TestDecode(t *testing.T) {
	for _, c := range []struct {
		b    []byte
		want uint64
		n    int
		err  api.Errno
	}{
		{[]byte{0}, 0, 1, api.OK},
		{[]byte{0, 0}, 0, 1, api.OK},
		{[]byte{0x7f}, 127, 1, api.OK},
		{[]byte{0x80, 1}, 128, 2, api.OK},
		{[]byte{0xac, 2, 0xff}, 300, 2, api.OK},
		{ones(1), greatest, 10, api.OK},
		{ones(1, 0xff, 0xff), greatest, 10, api.OK},
		{append(bytes.Repeat([]byte{0x80}, 9), 1), 1 << 63, 10, api.OK},
		{nil, 0, 0, api.ErrNumShort},
		{[]byte{}, 0, 0, api.ErrNumShort},
		{[]byte{0x80}, 0, 0, api.ErrNumShort},
		{ones(), 0, 0, api.ErrNumShort},
		{[]byte{0x80, 0}, 0, 0, api.ErrNumForm},
		{[]byte{0x80, 0x80, 0}, 0, 0, api.ErrNumForm},
		{ones(0), 0, 0, api.ErrNumForm},
		{ones(2), 0, 0, api.ErrNumLong},
		{ones(0x7f), 0, 0, api.ErrNumLong},
		{ones(0x80), 0, 0, api.ErrNumLong},
		{ones(0x81, 0), 0, 0, api.ErrNumLong},
		{bytes.Repeat([]byte{0xff}, 10), 0, 0, api.ErrNumLong},
		{bytes.Repeat([]byte{0x80}, 10), 0, 0, api.ErrNumLong},
		{bytes.Repeat([]byte{0x80}, 1000), 0, 0, api.ErrNumLong},
	} {
		v, n, err := num.Decode(c.b)
		if v != c.want || n != c.n || err != c.err {
			t.Errorf("Decode(%x): %d, %d, %d; want %d, %d, %d", c.b, v, n, err, c.want, c.n, c.err)
		}
	}
}

// P1.3, and that which Decode takes is written again byte for byte (P1.7)
func TestDecodeOfAnyBytes(t *testing.T) {
	for _, b := range samples() {
		v, n, err := num.Decode(b)
		if wv, wn, werr := told(b); v != wv || n != wn || err != werr {
			t.Fatalf("Decode(%x): %d, %d, %d; want %d, %d, %d", b, v, n, err, wv, wn, werr)
		}
		if err == api.OK && !bytes.Equal(num.Encode(v), b[:n]) {
			t.Fatalf("Encode(%d): %x, but Decode took %x", v, num.Encode(v), b[:n])
		}
	}
}

type found struct {
	at int
	v  uint64
}

func collect(b []byte) []found {
	var out []found
	for at, v := range num.All(b) {
		out = append(out, found{at, v})
	}
	return out
}

func same(a, b []found) bool {
	if len(a) != len(b) {
		return false
	}
	for i := range a {
		if a[i] != b[i] {
			return false
		}
	}
	return true
}

// P1.4
func TestAll(t *testing.T) {
	for _, c := range []struct {
		b    []byte
		want []found
	}{
		{nil, nil},
		{[]byte{}, nil},
		{[]byte{0, 0}, []found{{0, 0}, {1, 0}}},
		{[]byte{5, 0x80, 1, 9}, []found{{0, 5}, {1, 128}, {3, 9}}},
		{[]byte{5, 0x80, 1, 0x80}, []found{{0, 5}, {1, 128}}},
		{[]byte{5, 0x80, 0, 1, 1}, []found{{0, 5}}},
		{[]byte{0x80}, nil},
		{append(ones(1), ones(2, 1)...), []found{{0, greatest}}},
	} {
		if got := collect(c.b); !same(got, c.want) {
			t.Errorf("All(%x): %v, want %v", c.b, got, c.want)
		}
	}
}

// P1.4
func TestAllOfAnyBytes(t *testing.T) {
	for _, b := range samples() {
		var want []found
		for at := 0; at < len(b); {
			v, n, err := told(b[at:])
			if err != api.OK {
				break
			}
			want = append(want, found{at, v})
			at += n
		}
		if got := collect(b); !same(got, want) {
			t.Fatalf("All(%x): %v, want %v", b, got, want)
		}
	}
}

// P1.4 with R3: an iterator is left, gone over again, nested, and knows nothing of later changes.
func TestAllAsAnIterator(t *testing.T) {
	b := []byte{1, 2, 3}
	all := num.All(b)
	b[0], b[1], b[2] = 0x80, 0x80, 0x80
	for at, v := range all {
		if at == 1 {
			break
		}
		if at != 0 || v != 1 {
			t.Errorf("first: %d at %d", v, at)
		}
	}
	pairs := 0
	for _, v := range all {
		for _, w := range all {
			pairs = pairs*10 + int(v*w)
		}
	}
	if pairs != 123246369 {
		t.Errorf("nested: %d", pairs)
	}
	all(nil)
	if b[0] != 0x80 {
		t.Error("All has changed its argument")
	}
}

// P1.5
func TestZigAndZag(t *testing.T) {
	for _, c := range []struct {
		v int
		u uint64
	}{
		{0, 0}, {-1, 1}, {1, 2}, {-2, 3}, {2, 4},
		{math.MaxInt64, greatest - 1}, {math.MinInt64, greatest}, {math.MinInt64 + 1, greatest - 2},
	} {
		if u := num.Zig(c.v); u != c.u {
			t.Errorf("Zig(%d): %d, want %d", c.v, u, c.u)
		}
		if v := num.Zag(c.u); v != c.v {
			t.Errorf("Zag(%d): %d, want %d", c.u, v, c.v)
		}
	}
	for _, u := range edges() {
		if got := num.Zig(num.Zag(u)); got != u {
			t.Errorf("Zig(Zag(%d)): %d", u, got)
		}
		if v := int(u); num.Zag(num.Zig(v)) != v {
			t.Errorf("Zag(Zig(%d)): %d", v, num.Zag(num.Zig(v)))
		}
	}
}

// answer: what a Taker says to a byte, and how many it has then.
type answer struct {
	v     uint64
	ended bool
	err   api.Errno
	waits int
}

func feed(t *testing.T, x *num.Taker, b []byte, want ...answer) {
	t.Helper()
	for i, c := range b {
		v, ended, err := x.Take(c)
		if got := (answer{v, ended, err, x.Waits()}); got != want[i] {
			t.Errorf("byte %d of %x: %v, want %v", i, b, got, want[i])
		}
	}
}

func waiting(n int) answer { return answer{waits: n} }

func nine() []answer {
	var out []answer
	for i := range 9 {
		out = append(out, waiting(i+1))
	}
	return out
}

// P1.6: one Taker throughout, so that each row begins where the last one left it.
func TestTaker(t *testing.T) {
	var x num.Taker
	if x.Waits() != 0 {
		t.Errorf("a zero value has taken %d", x.Waits())
	}
	feed(t, &x, []byte{0}, answer{ended: true})
	feed(t, &x, []byte{0xac, 2}, waiting(1), answer{v: 300, ended: true})
	feed(t, &x, []byte{0x80, 0}, waiting(1), answer{err: api.ErrNumForm})
	feed(t, &x, []byte{0x7f}, answer{v: 127, ended: true})
	feed(t, &x, ones(2), append(nine(), answer{err: api.ErrNumLong})...)
	feed(t, &x, ones(0xff), append(nine(), answer{err: api.ErrNumLong})...)
	feed(t, &x, ones(0), append(nine(), answer{err: api.ErrNumForm})...)
	feed(t, &x, ones(1), append(nine(), answer{v: greatest, ended: true})...)
	feed(t, &x, []byte{1}, answer{v: 1, ended: true})
}

// P1.6
func TestTakerReset(t *testing.T) {
	var x num.Taker
	feed(t, &x, []byte{0xff, 0xff}, waiting(1), waiting(2))
	x.Reset()
	if x.Waits() != 0 {
		t.Errorf("behind Reset: %d", x.Waits())
	}
	feed(t, &x, []byte{0}, answer{ended: true})
	x.Reset()
	feed(t, &x, []byte{0x80, 1}, waiting(1), answer{v: 128, ended: true})
}

// P1.6 with R5
func TestTakerOfNil(t *testing.T) {
	var x *num.Taker
	for _, b := range []byte{0, 1, 0x80, 0xff} {
		if v, ended, err := x.Take(b); v != 0 || ended || err != api.ErrMade {
			t.Errorf("Take(%x): %d, %v, %d", b, v, ended, err)
		}
	}
	x.Reset()
	if x.Waits() != 0 {
		t.Errorf("Waits: %d", x.Waits())
	}
}

// P1.6 with R4
func TestTakersApart(t *testing.T) {
	var x, y num.Taker
	x.Take(0x81)
	feed(t, &y, []byte{5}, answer{v: 5, ended: true})
	feed(t, &x, []byte{1}, answer{v: 129, ended: true})
}

// P1.7
func TestDecodeUndoesEncode(t *testing.T) {
	for _, v := range edges() {
		form := num.Encode(v)
		for _, tail := range [][]byte{nil, {0}, {1}, {0x80}, {0xff, 0xff}} {
			got, n, err := num.Decode(append(bytes.Clone(form), tail...))
			if got != v || n != len(form) || err != api.OK {
				t.Errorf("Decode(Encode(%d) %x): %d, %d, %d", v, tail, got, n, err)
			}
		}
	}
}

// P1.7: bytes that begin a number's form, and are fewer, are no form.
func TestNoFormBeginsAnother(t *testing.T) {
	for _, v := range edges() {
		form := num.Encode(v)
		for n := range len(form) {
			if _, _, err := num.Decode(form[:n]); err != api.ErrNumShort {
				t.Errorf("the first %d bytes of %x: %d", n, form, err)
			}
		}
	}
}

// P1.8
func TestUnfixUndoesFixed(t *testing.T) {
	for _, v := range edges() {
		for size := 1; size <= 8; size++ {
			b, err := num.Fixed(v, size)
			if fits := size == 8 || v < 1<<(8*size); fits != (err == api.OK) {
				t.Errorf("Fixed(%d, %d): %d", v, size, err)
			}
			if err != api.OK {
				continue
			}
			if got, err := num.Unfix(append(b, 0xee), size); got != v || err != api.OK {
				t.Errorf("Unfix(Fixed(%d, %d)): %d, %d", v, size, got, err)
			}
		}
	}
}

// P1.9: each byte of any list, told by Decode over the bytes since the last number or error.
func TestTakerTellsAsDecode(t *testing.T) {
	for _, b := range samples() {
		var x num.Taker
		begin := 0
		for i, c := range b {
			v, ended, err := x.Take(c)
			wv, wn, werr := num.Decode(b[begin : i+1])
			if werr == api.ErrNumShort {
				if v != 0 || ended || err != api.OK || x.Waits() != i+1-begin {
					t.Fatalf("%x at %d: %d, %v, %d, waits %d", b, i, v, ended, err, x.Waits())
				}
				continue
			}
			if v != wv || ended != (wn != 0) || err != werr || x.Waits() != 0 {
				t.Fatalf("%x at %d: %d, %v, %d, waits %d; want %d, %d", b, i, v, ended, err, x.Waits(), wv, werr)
			}
			begin = i + 1
		}
	}
}

// R3: arguments stay as they are, with what lies behind their end, and answers are new memory.
func TestMemory(t *testing.T) {
	room := []uint64{300, 127, 99, 98}
	first := num.Encode(room[:2]...)
	second := num.Encode(room[:2]...)
	_ = append(first, 0xee)
	for i := range first {
		first[i] = 0xee
	}
	if !bytes.Equal(second, []byte{0xac, 2, 0x7f}) {
		t.Errorf("two answers share memory: %x", second)
	}
	if room[0] != 300 || room[1] != 127 || room[2] != 99 || room[3] != 98 {
		t.Errorf("Encode has changed its argument: %d", room)
	}
	b := []byte{0xac, 2, 0x80, 7}
	num.Decode(b[:2])
	num.Unfix(b[:2], 2)
	_ = collect(b[:3])
	if !bytes.Equal(b, []byte{0xac, 2, 0x80, 7}) {
		t.Errorf("bytes handed in have changed: %x", b)
	}
	one, _ := num.Fixed(1, 2)
	two, _ := num.Fixed(1, 2)
	one[0] = 9
	if two[0] != 1 {
		t.Error("two answers of Fixed share memory")
	}
}
