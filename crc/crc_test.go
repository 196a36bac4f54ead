package crc_test

import (
	"bytes"
	"encoding/binary"
	"hash/crc32"
	"math"
	"math/big"
	"testing"

	"sapper/api"
	"sapper/crc"
)

const (
	unit     = 0x80000000 // the word of the polynomial 1
	residue  = 0x2144df1c // of every text and its own sum behind it
	check    = 0xcbf43926 // of "123456789"
	greatest = math.MaxInt
)

// register: the way that the chapter tells in other words, bit by bit.
func register(r uint32, p []byte) uint32 {
	for _, b := range p {
		r ^= uint32(b)
		for range 8 {
			left := r & 1
			r >>= 1
			if left == 1 {
				r ^= 0xedb88320
			}
		}
	}
	return r
}

// generator: G as the chapter writes it, its coefficients the bits of an integer.
func generator() *big.Int {
	g := new(big.Int)
	for _, i := range []int{32, 26, 23, 22, 16, 12, 11, 10, 8, 7, 5, 4, 2, 1, 0} {
		g.SetBit(g, i, 1)
	}
	return g
}

// modulo: what division by G leaves.
func modulo(p *big.Int) *big.Int {
	g, rest := generator(), new(big.Int).Set(p)
	for rest.BitLen() > 32 {
		rest.Xor(rest, new(big.Int).Lsh(g, uint(rest.BitLen()-33)))
	}
	return rest
}

// row: the polynomial of a text's bits.
func row(p []byte) *big.Int {
	out := new(big.Int)
	for i := range 8 * len(p) {
		out.SetBit(out, 8*len(p)-1-i, uint(p[i/8]>>(i%8)&1))
	}
	return out
}

// word and polynomial lead from one to the other, bit i being the coefficient of x^(31-i).
func word(p *big.Int) uint32 {
	out := uint32(0)
	for i := range 32 {
		out |= uint32(p.Bit(31-i)) << i
	}
	return out
}

func polynomial(w uint32) *big.Int {
	out := new(big.Int)
	for i := range 32 {
		out.SetBit(out, 31-i, uint(w>>i&1))
	}
	return out
}

// divided: the sum by the chapter's words, a division of polynomials.
func divided(p []byte) uint32 {
	all := new(big.Int).Lsh(row(p), 32)
	ones := new(big.Int).Lsh(polynomial(math.MaxUint32), uint(8*len(p)))
	return ^word(modulo(all.Xor(all, ones)))
}

// text: bytes that follow no pattern and are the same at each run.
func text(size int, seed uint32) []byte {
	out := make([]byte, size)
	for i := range out {
		seed = seed*1664525 + 1013904223
		out[i] = byte(seed >> 24)
	}
	return out
}

func texts() [][]byte {
	out := [][]byte{nil, {}, {0}, {255}, make([]byte, 4), bytes.Repeat([]byte{255}, 4), []byte("123456789")}
	for i := range 40 {
		out = append(out, text(i, uint32(i)))
	}
	for b := range 256 {
		out = append(out, []byte{byte(b)})
	}
	return append(out, text(1000, 7))
}

func words() []uint32 {
	out := []uint32{0, 5, math.MaxUint32, check, residue}
	for i := range 32 {
		out = append(out, 1<<i)
	}
	return out
}

func well(t *testing.T, c uint32, err api.Errno) uint32 {
	t.Helper()
	if err != api.OK {
		t.Fatalf("error %d", int(err))
	}
	return c
}

func zeros(t *testing.T, c uint32, n int) uint32 {
	t.Helper()
	got, err := crc.Zeros(c, n)
	return well(t, got, err)
}

func join(t *testing.T, a, b uint32, n int) uint32 {
	t.Helper()
	got, err := crc.Join(a, b, n)
	return well(t, got, err)
}

func turned(t *testing.T, c uint32, size, at int, mask byte) uint32 {
	t.Helper()
	got, err := crc.Turned(c, size, at, mask)
	return well(t, got, err)
}

// P2.1.
func TestSum(t *testing.T) {
	for _, p := range texts() {
		got := crc.Sum(p)
		if want := divided(p); got != want {
			t.Errorf("Sum(%x) = %08x, the division gives %08x", p, got, want)
		}
		if want := ^register(math.MaxUint32, p); got != want {
			t.Errorf("Sum(%x) = %08x, the register gives %08x", p, got, want)
		}
		if want := crc32.ChecksumIEEE(p); got != want {
			t.Errorf("Sum(%x) = %08x, the IEEE's is %08x", p, got, want)
		}
	}
}

// P2.1 and the chapter's examples.
func TestSumExamples(t *testing.T) {
	for _, c := range []struct {
		parts []string
		want  uint32
	}{
		{nil, 0},
		{[]string{""}, 0},
		{[]string{"", "", ""}, 0},
		{[]string{"123456789"}, check},
		{[]string{"1234", "56789"}, check},
		{[]string{"", "1234", "", "56789", ""}, check},
		{[]string{"\x00"}, 0xd202ef8d},
		{[]string{"\x00\x00\x00\x00"}, residue},
		{[]string{"\xff\xff\xff\xff"}, math.MaxUint32},
		{[]string{"a"}, 0xe8b7be43},
		{[]string{"56789", "1234"}, crc32.ChecksumIEEE([]byte("567891234"))},
	} {
		parts := make([][]byte, len(c.parts))
		for i, p := range c.parts {
			parts[i] = []byte(p)
		}
		if got := crc.Sum(parts...); got != c.want {
			t.Errorf("Sum(%q) = %08x, want %08x", c.parts, got, c.want)
		}
	}
	if got := crc.Sum([][]byte{nil, []byte("123456789"), nil}...); got != check {
		t.Errorf("Sum with nil parts = %08x", got)
	}
}

// P2.2.
func TestMore(t *testing.T) {
	for _, p := range texts() {
		for _, c := range words() {
			if got, want := crc.More(c, p), ^register(^c, p); got != want {
				t.Errorf("More(%08x, %x) = %08x, want %08x", c, p, got, want)
			}
		}
		if got, want := crc.More(0, p), crc.Sum(p); got != want {
			t.Errorf("More(0, %x) = %08x, Sum is %08x", p, got, want)
		}
	}
	x, p := text(300, 1), text(77, 2)
	if got, want := crc.More(crc.Sum(x), p), crc.Sum(x, p); got != want {
		t.Errorf("More(Sum(x), p) = %08x, Sum(x, p) is %08x", got, want)
	}
	for _, c := range words() {
		if got := crc.More(c, nil); got != c {
			t.Errorf("More(%08x, nil) = %08x", c, got)
		}
	}
}

// P2.3.
func TestZeros(t *testing.T) {
	for _, c := range words() {
		for _, n := range []int{0, 1, 2, 3, 4, 5, 7, 8, 9, 31, 32, 255, 256, 1000, 65537} {
			if got, want := zeros(t, c, n), crc.More(c, make([]byte, n)); got != want {
				t.Errorf("Zeros(%08x, %d) = %08x, want %08x", c, n, got, want)
			}
		}
	}
	if got := zeros(t, 0, 4); got != residue {
		t.Errorf("Zeros(0, 4) = %08x", got)
	}
	if got := zeros(t, 5, 0); got != 5 {
		t.Errorf("Zeros(5, 0) = %08x", got)
	}
}

// P2.3: what Join is, by the division.
func TestJoin(t *testing.T) {
	for _, a := range words() {
		for _, b := range []uint32{0, 1, 0xdeadbeef, math.MaxUint32} {
			for n := range 50 {
				want := word(modulo(new(big.Int).Lsh(polynomial(a), uint(8*n)))) ^ b
				if got := join(t, a, b, n); got != want {
					t.Errorf("Join(%08x, %08x, %d) = %08x, want %08x", a, b, n, got, want)
				}
			}
		}
	}
	if got := join(t, crc.Sum([]byte("12345")), crc.Sum([]byte("6789")), 4); got != check {
		t.Errorf("Join = %08x, want %08x", got, uint32(check))
	}
	if got := join(t, 7, 9, 0); got != 7^9 {
		t.Errorf("Join(7, 9, 0) = %08x", got)
	}
}

// power: x^e modulo G for an e of any size, by squares of integers.
func power(e *big.Int) *big.Int {
	out := big.NewInt(1)
	for i := e.BitLen() - 1; i >= 0; i-- {
		square := new(big.Int)
		for j := range out.BitLen() {
			square.SetBit(square, 2*j, out.Bit(j))
		}
		out = modulo(square.Lsh(square, e.Bit(i)))
	}
	return out
}

// product: of two polynomials, modulo G.
func product(a, b *big.Int) *big.Int {
	out := new(big.Int)
	for i := range b.BitLen() {
		if b.Bit(i) == 1 {
			out.Xor(out, new(big.Int).Lsh(a, uint(i)))
		}
	}
	return modulo(out)
}

// eightfold: 8n + more, which may be no int.
func eightfold(n, more int) *big.Int {
	e := new(big.Int).Mul(big.NewInt(int64(n)), big.NewInt(8))
	return e.Add(e, big.NewInt(int64(more)))
}

func greats() []int {
	return []int{1 << 20, 1<<28 - 1, 1 << 31, 1<<32 - 2, 1<<32 - 1, 1 << 32, 1 << 60, 1<<61 - 1, 1 << 61, 1 << 62, greatest - 1, greatest}
}

// P2.3 and P2.4: great numbers are right, and are reckoned at once.
func TestGreat(t *testing.T) {
	for _, n := range greats() {
		for _, c := range words() {
			p := power(eightfold(n, 0))
			want := word(product(polynomial(c), p))
			if got := join(t, c, 0x1234, n); got != want^0x1234 {
				t.Errorf("Join(%08x, 1234, %d) = %08x", c, n, got)
			}
			want = ^word(product(polynomial(^c), p))
			if got := zeros(t, c, n); got != want {
				t.Errorf("Zeros(%08x, %d) = %08x, want %08x", c, n, got, want)
			}
		}
		for _, at := range []int{0, 1, n / 2, n - 4, n - 2, n - 1} {
			want := 77 ^ word(product(row([]byte{0xa7}), power(eightfold(n-1-at, 32))))
			if got := turned(t, 77, n, at, 0xa7); got != want {
				t.Errorf("Turned(77, %d, %d, a7) = %08x, want %08x", n, at, got, want)
			}
		}
	}
}

// P2.3 and P2.4: wrong numbers, and zero beside the error.
func TestWrong(t *testing.T) {
	for _, n := range []int{-1, -2, -8, math.MinInt, math.MinInt + 1} {
		for _, c := range words() {
			if got, err := crc.Zeros(c, n); got != 0 || err != api.ErrArg {
				t.Errorf("Zeros(%08x, %d) = %08x, %d", c, n, got, int(err))
			}
			if got, err := crc.Join(c, 2, n); got != 0 || err != api.ErrArg {
				t.Errorf("Join(%08x, 2, %d) = %08x, %d", c, n, got, int(err))
			}
			// The size stands left of the place: its error comes first.
			for _, at := range []int{0, -1, n, n - 1, greatest, math.MinInt} {
				if got, err := crc.Turned(c, n, at, 1); got != 0 || err != api.ErrArg {
					t.Errorf("Turned(%08x, %d, %d, 1) = %08x, %d", c, n, at, got, int(err))
				}
			}
		}
	}
	for _, size := range []int{0, 1, 9, greatest - 1, greatest} {
		for _, at := range []int{-1, -2, math.MinInt, size, greatest} {
			for _, mask := range []byte{0, 1, 255} {
				if got, err := crc.Turned(5, size, at, mask); got != 0 || err != api.ErrCrcPlace {
					t.Errorf("Turned(5, %d, %d, %d) = %08x, %d", size, at, mask, got, int(err))
				}
			}
		}
	}
	if got, err := crc.Turned(5, 9, 10, 1); got != 0 || err != api.ErrCrcPlace {
		t.Errorf("Turned(5, 9, 10, 1) = %08x, %d", got, int(err))
	}
}

// P2.4, by the division, and P2.6.
func TestTurned(t *testing.T) {
	x := text(20, 3)
	for at := range x {
		for mask := range 256 {
			other := bytes.Clone(x)
			other[at] ^= byte(mask)
			if got, want := turned(t, crc.Sum(x), len(x), at, byte(mask)), crc.Sum(other); got != want {
				t.Errorf("Turned(%d, %02x) = %08x, want %08x", at, mask, got, want)
			}
			shifted := new(big.Int).Lsh(row([]byte{byte(mask)}), uint(8*(len(x)-1-at)+32))
			if got, want := turned(t, 0xabcd, len(x), at, byte(mask)), 0xabcd^word(modulo(shifted)); got != want {
				t.Errorf("Turned(abcd, %d, %02x) = %08x, want %08x", at, mask, got, want)
			}
		}
	}
	if got := turned(t, check, 9, 0, 1); got != crc.Sum([]byte("023456789")) {
		t.Errorf("Turned(.., 9, 0, 1) = %08x", got)
	}
	if got := turned(t, 5, greatest, 0, 0); got != 5 {
		t.Errorf("mask 0 changes the sum to %08x", got)
	}
	if got, want := turned(t, crc.Sum([]byte{8}), 1, 0, 8), crc.Sum([]byte{0}); got != want {
		t.Errorf("of one byte: %08x, want %08x", got, want)
	}
}

// P2.5.
func TestTail(t *testing.T) {
	for _, c := range words() {
		for _, want := range words() {
			tail := crc.Tail(c, want)
			if got := crc.More(c, tail[:]); got != want {
				t.Errorf("More(%08x, Tail) = %08x, want %08x", c, got, want)
			}
		}
	}
	// There are just such four: the bytes that led to a sum come back.
	for i := range 200 {
		p := text(4, uint32(i))
		c := crc.Sum(text(i, 9))
		if got := crc.Tail(c, crc.More(c, p)); !bytes.Equal(got[:], p) {
			t.Errorf("Tail = %x, want %x", got, p)
		}
	}
	for _, c := range []struct {
		c, want uint32
		tail    string
	}{
		{0, residue, "\x00\x00\x00\x00"},
		{0, math.MaxUint32, "\xff\xff\xff\xff"},
		{crc.Sum([]byte("12345")), check, "6789"},
	} {
		if got := crc.Tail(c.c, c.want); string(got[:]) != c.tail {
			t.Errorf("Tail(%08x, %08x) = %x, want %x", c.c, c.want, got, c.tail)
		}
	}
}

// P2.6: how the bytes are cut.
func TestCuts(t *testing.T) {
	x := text(40, 4)
	want := crc.Sum(x)
	for i := range len(x) + 1 {
		for j := i; j <= len(x); j++ {
			if got := crc.Sum(x[:i], x[i:j], x[j:]); got != want {
				t.Errorf("cut at %d and %d: %08x, want %08x", i, j, got, want)
			}
		}
		if got := join(t, crc.Sum(x[:i]), crc.Sum(x[i:]), len(x)-i); got != want {
			t.Errorf("joined at %d: %08x, want %08x", i, got, want)
		}
	}
	singles := make([][]byte, 0, len(x))
	for i := range x {
		singles = append(singles, x[i:i+1])
	}
	if got := crc.Sum(singles...); got != want {
		t.Errorf("of single bytes: %08x, want %08x", got, want)
	}
}

// P2.6: noughts behind noughts.
func TestZerosBehindZeros(t *testing.T) {
	holds := func(c uint32, m, n uint64) bool {
		a, b := int(m>>2), int(n>>2) // so that their sum is an int
		return zeros(t, zeros(t, c, a), b) == zeros(t, c, a+b)
	}
	for _, c := range words() {
		for _, n := range greats() {
			if !holds(c, uint64(n), 1<<62) || !holds(c, 0, uint64(n)) || !holds(c, uint64(n), 4) {
				t.Errorf("Zeros(%08x, ..) around %d", c, n)
			}
		}
		if zeros(t, zeros(t, c, greatest-3), 3) != zeros(t, c, greatest) {
			t.Errorf("Zeros(%08x, ..) up to the greatest int", c)
		}
	}
	seed := uint64(1)
	for range 300 {
		m := seed*6364136223846793005 + 1442695040888963407
		seed = m*6364136223846793005 + 1442695040888963407
		if !holds(uint32(m>>7), m, seed) {
			t.Errorf("Zeros(%08x, %d + %d)", uint32(m>>7), m>>2, seed>>2)
		}
	}
}

// P2.7: bits within 32 that follow one another. The sums' difference hangs on the turned bits alone (P2.4).
func TestBursts(t *testing.T) {
	x := text(64, 5)
	sum := crc.Sum(x)
	holds := func(bits uint32, place uint16) bool {
		at := int(place) % (8*len(x) - 31)
		other := bytes.Clone(x)
		for i := range 32 {
			if bits>>i&1 == 1 {
				other[(at+i)/8] ^= 1 << ((at + i) % 8)
			}
		}
		return bits == 0 || crc.Sum(other) != sum
	}
	for i := range 32 {
		for j := range 32 {
			for at := range uint16(8 * len(x)) {
				if !holds(1<<i|1<<j, at) {
					t.Fatalf("bits %d and %d behind %d", i, j, at)
				}
			}
		}
	}
	for _, bits := range []uint32{math.MaxUint32, 0xedb88320, 0xdb710641} {
		for at := range uint16(8 * len(x)) {
			if !holds(bits, at) {
				t.Fatalf("bits %08x behind %d", bits, at)
			}
		}
	}
	some := text(6*1000, 10)
	for ; len(some) > 0; some = some[6:] {
		bits, at := binary.LittleEndian.Uint32(some), binary.LittleEndian.Uint16(some[4:])
		if !holds(bits, at) {
			t.Fatalf("bits %08x behind %d", bits, at)
		}
	}
}

// P2.7: one or two bits of at most 2^28 bytes: x^8, and so x, comes to 1 again at 2^32 - 1 and not ahead of it.
func TestTwoBits(t *testing.T) {
	const order = 1<<32 - 1
	if join(t, unit, 0, order) != unit {
		t.Errorf("x^(8 (2^32 - 1)) is not 1")
	}
	for _, prime := range []int{3, 5, 17, 257, 65537} {
		if join(t, unit, 0, order/prime) == unit {
			t.Errorf("x comes to 1 at (2^32 - 1) / %d", prime)
		}
	}
	const size = 1 << 28
	seen := make(map[uint32]int)
	for _, at := range []int{0, 1, 2, size / 3, size / 2, size - 2, size - 1} {
		for bit := range 8 {
			got := turned(t, 0, size, at, 1<<bit)
			if other, there := seen[got]; there || got == 0 {
				t.Errorf("bit %d of byte %d is like bit %d", bit, at, other)
			}
			seen[got] = 8*at + bit
		}
	}
}

// P2.7: three bits of at most 11454 bytes, and the two texts of 11455.
func TestThreeBits(t *testing.T) {
	const size = 11454
	places := make(map[uint32]int, 8*size)
	// Of three places the last may stand at the end: the sums hang on how far they stand ahead of it.
	last := turned(t, 0, size, size-1, 0x80)
	for i := 1; i < 8*size; i++ {
		at := 8*size - 1 - i
		places[turned(t, 0, size, at/8, 1<<(at%8))] = i
	}
	for w, i := range places {
		if j, there := places[w^last]; there {
			t.Fatalf("bits 0, %d and %d from the end have one sum", i, j)
		}
	}
	x := text(size+1, 6)
	other := bytes.Clone(x)
	for _, i := range []int{91639, 41678, 0} {
		at := 8*len(x) - 1 - i
		other[at/8] ^= 1 << (at % 8)
	}
	if crc.Sum(x) != crc.Sum(other) {
		t.Errorf("the two texts of 11455 bytes have unlike sums")
	}
}

// P2.8.
func TestResidue(t *testing.T) {
	for _, p := range texts() {
		c := crc.Sum(p)
		own := []byte{byte(c), byte(c >> 8), byte(c >> 16), byte(c >> 24)}
		if got := crc.Sum(p, own); got != residue {
			t.Errorf("the sum of %x and its sum is %08x", p, got)
		}
	}
}

// R3: what is handed in stays as it is, behind its end, too.
func TestKeepsArguments(t *testing.T) {
	p := text(64, 8)
	kept := bytes.Clone(p)
	parts := [][]byte{p[:10], nil, p[10:20]}
	crc.Sum(parts...)
	crc.More(3, p[:30])
	if !bytes.Equal(p, kept) || len(parts[0]) != 10 || parts[1] != nil || len(parts[2]) != 10 {
		t.Errorf("an argument was changed")
	}
}
