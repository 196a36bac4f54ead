package frame_test

import (
	"hash/crc32"
	"math/big"
	"slices"

	"sapper/api"
	"sapper/cutter"
	"sapper/press"
	"sapper/swell"
)

// The chapter's words, taken literally: windows are counted one by one, numbers are held against each other without an end, and what may not be is asked for one thing at a time.

// headMayBe: A header may be.
func headMayBe(h api.Head) bool {
	if h.Old < 0 || h.Old > 1<<24 {
		return false
	}
	if h.New < 0 || h.New > 1<<24 {
		return false
	}
	if h.Window < 64 || h.Window > 65536 {
		return false
	}
	return h.Look >= 1 && h.Look <= 32768
}

// sizesAll: how many bytes each of a header's windows makes.
func sizesAll(h api.Head) []int {
	if !headMayBe(h) {
		return nil
	}
	var out []int
	left := h.New
	for left > h.Window {
		out = append(out, h.Window)
		left -= h.Window
	}
	if left > 0 {
		out = append(out, left)
	}
	return out
}

// sizeOf: P18.1.
func sizeOf(h api.Head, i int) int {
	if l := sizesAll(h); i >= 0 && i < len(l) {
		return l[i]
	}
	return 0
}

// shortest: a number's shortest form, by chapter 1.
func shortest(v int) []byte {
	var out []byte
	for v >= 128 {
		out = append(out, byte(128+v%128))
		v /= 128
	}
	return append(out, byte(v))
}

// four: bytes, the least first.
func four(v uint32) []byte {
	return []byte{byte(v % 256), byte(v / 256 % 256), byte(v / 65536 % 256), byte(v / 16777216)}
}

// sealed: parts, one behind the other, and their sum.
func sealed(parts ...[]byte) []byte {
	all := slices.Concat(parts...)
	return append(all, four(crc32.ChecksumIEEE(all))...)
}

// headBytes: a header's bytes, whether it may be or not, but for numbers below 0.
func headBytes(h api.Head) []byte {
	return sealed([]byte{'S', 'A', 'P', 'R', 1}, shortest(h.Old), shortest(h.New), shortest(h.Window), shortest(h.Look), four(h.OldSum), four(h.NewSum))
}

// headOf: P18.2.
func headOf(h api.Head) ([]byte, api.Errno) {
	if !headMayBe(h) {
		return nil, api.ErrFrameHead
	}
	return headBytes(h), api.OK
}

// number: the one that b begins with, by chapter 1, its bytes, and whether it is one; many: it is far above all that a patch has.
func number(b []byte) (v, n int, many, is bool) {
	for i := 0; ; i++ {
		if i == len(b) || i == 9 && b[i] > 1 || i > 0 && b[i] == 0 {
			return 0, 0, false, false
		}
		if i < 5 {
			v += int(b[i]%128) << (7 * i)
		} else {
			many = many || b[i]%128 > 0
		}
		if b[i] < 128 {
			return v, i + 1, many, true
		}
	}
}

// numbers: so many that b begins with, and what is behind them; none, if one is not there, or is far too great.
func numbers(b []byte, count int) ([]int, []byte) {
	var out []int
	for range count {
		v, n, many, is := number(b)
		if !is || many {
			return nil, nil
		}
		out, b = append(out, v), b[n:]
	}
	return out, b
}

// readHeadOf: P18.2.
func readHeadOf(b []byte) (api.Head, int, api.Errno) {
	if len(b) < 5 || string(b[:4]) != "SAPR" || b[4] != 1 {
		return api.Head{}, 0, api.ErrFrameForm
	}
	l, rest := numbers(b[5:], 4)
	if l == nil || len(rest) < 12 {
		return api.Head{}, 0, api.ErrFrameForm
	}
	word := func(at int) uint32 {
		return uint32(rest[at]) + uint32(rest[at+1])*256 + uint32(rest[at+2])*65536 + uint32(rest[at+3])*16777216
	}
	h := api.Head{Old: l[0], New: l[1], Window: l[2], Look: l[3], OldSum: word(0), NewSum: word(4)}
	if !headMayBe(h) {
		return api.Head{}, 0, api.ErrFrameForm
	}
	n := len(b) - len(rest) + 12
	if word(8) != crc32.ChecksumIEEE(b[:n-4]) {
		return api.Head{}, 0, api.ErrFrameSum
	}
	return h, n, api.OK
}

// sizesMayBe: Sizes may be, for a window that makes so many bytes.
func sizesMayBe(h api.Head, size int, s api.Sizes) bool {
	if s.Pos < 0 || s.Pos > h.Old {
		return false
	}
	if s.Raw[0] < 1 || s.Raw[0] > cutter.Most(h.Window) {
		return false
	}
	if s.Raw[1] < 0 || s.Raw[2] < 0 {
		return false
	}
	whole := func(v int) *big.Int { return big.NewInt(int64(v)) }
	if new(big.Int).Add(whole(s.Raw[1]), whole(s.Raw[2])).Cmp(whole(size)) != 0 {
		return false
	}
	for k := range 3 {
		if s.Raw[k] == 0 {
			if s.Packed[k] != 0 {
				return false
			}
			continue
		}
		most := new(big.Int).Add(new(big.Int).Mul(whole(4), whole(s.Raw[k])), whole(64))
		if s.Packed[k] < 1 || whole(s.Packed[k]).Cmp(most) > 0 {
			return false
		}
	}
	return true
}

// fitsOf: P18.3.
func fitsOf(h api.Head, i int, s api.Sizes) api.Errno {
	if !headMayBe(h) {
		return api.ErrFrameHead
	}
	l := sizesAll(h)
	if i < 0 || i > len(l)-1 {
		return api.ErrArg
	}
	if !sizesMayBe(h, l[i], s) {
		return api.ErrFrameWindow
	}
	return api.OK
}

// sizesBytes: the seven numbers, whether they may be or not, but for numbers below 0.
func sizesBytes(s api.Sizes) []byte {
	out := shortest(s.Pos)
	for _, v := range s.Raw {
		out = append(out, shortest(v)...)
	}
	for _, v := range s.Packed {
		out = append(out, shortest(v)...)
	}
	return out
}

// sizesOf: P18.3.
func sizesOf(h api.Head, i int, s api.Sizes) ([]byte, api.Errno) {
	if err := fitsOf(h, i, s); err != api.OK {
		return nil, err
	}
	return sizesBytes(s), api.OK
}

// pressed: the stream of bytes, which may be pressed so; nothing of none.
func pressed(raw []byte, o api.Press) []byte {
	if len(raw) == 0 {
		return nil
	}
	p, err := press.Press(raw, o)
	if err != api.OK {
		panic(err)
	}
	return p
}

// streamsOf: a window's raw bytes, 0 its control, 1 its Diff, 2 its Extra.
func streamsOf(w api.Window) [3][]byte {
	control, err := cutter.Control(w.Edit.Steps...)
	if err != api.OK {
		panic(err)
	}
	return [3][]byte{control, w.Edit.Diff, w.Edit.Extra}
}

// windowBytes: a window's frame.
func windowBytes(w api.Window, o api.Press) []byte {
	s := api.Sizes{Pos: w.Pos}
	var streams []byte
	for k, raw := range streamsOf(w) {
		p := pressed(raw, o)
		s.Raw[k], s.Packed[k] = len(raw), len(p)
		streams = append(streams, p...)
	}
	return append(sizesBytes(s), streams...)
}

// encodeOf: P18.4.
func encodeOf(h api.Head, o api.Press, windows []api.Window) ([]byte, api.Errno) {
	if !headMayBe(h) {
		return nil, api.ErrFrameHead
	}
	if press.Options(o) != api.OK {
		return nil, api.ErrPressOption
	}
	if o.Look.Window != h.Look {
		return nil, api.ErrArg
	}
	l := sizesAll(h)
	if len(windows) != len(l) {
		return nil, api.ErrFrameWindow
	}
	for i, w := range windows {
		if cutter.Check(w, h.Old, l[i]) != api.OK {
			return nil, api.ErrFrameWindow
		}
	}
	parts := [][]byte{headBytes(h)}
	for _, w := range windows {
		parts = append(parts, windowBytes(w, o))
	}
	return sealed(parts...), api.OK
}

// sizesAt: the sizes that b begins with, and what is behind them; false: there are none for the window.
func sizesAt(h api.Head, i int, b []byte) (api.Sizes, []byte, bool) {
	l, rest := numbers(b, 7)
	if l == nil {
		return api.Sizes{}, nil, false
	}
	s := api.Sizes{Pos: l[0], Raw: [3]int(l[1:4]), Packed: [3]int(l[4:7])}
	return s, rest, fitsOf(h, i, s) == api.OK
}

// windowAt: the i-th window, that b begins with, and what is behind it; false: there is none.
func windowAt(h api.Head, i int, b []byte) (api.Window, []byte, bool) {
	s, b, is := sizesAt(h, i, b)
	if !is || len(b) < s.Packed[0]+s.Packed[1]+s.Packed[2] {
		return api.Window{}, nil, false
	}
	var raw [3][]byte
	for k := range 3 {
		if s.Raw[k] > 0 {
			out, err := swell.All(b[:s.Packed[k]], h.Look, s.Raw[k])
			if err != api.OK || len(out) != s.Raw[k] {
				return api.Window{}, nil, false
			}
			raw[k] = out
		}
		b = b[s.Packed[k]:]
	}
	steps, err := cutter.Uncontrol(raw[0])
	if err != api.OK {
		return api.Window{}, nil, false
	}
	w := api.Window{Pos: s.Pos, Edit: api.Edit{Steps: steps, Diff: raw[1], Extra: raw[2]}}
	return w, b, cutter.Check(w, 1<<24, sizeOf(h, i)) == api.OK
}

// decodeOf: P18.5.
func decodeOf(b []byte) (api.Head, []api.Window, api.Errno) {
	h, n, err := readHeadOf(b)
	if err != api.OK {
		return api.Head{}, nil, err
	}
	rest := b[n:]
	var out []api.Window
	for i := range sizesAll(h) {
		w, behind, is := windowAt(h, i, rest)
		if !is {
			return api.Head{}, nil, api.ErrFrameForm
		}
		out, rest = append(out, w), behind
	}
	if len(rest) != 4 {
		return api.Head{}, nil, api.ErrFrameForm
	}
	if string(rest) != string(four(crc32.ChecksumIEEE(b[:len(b)-4]))) {
		return api.Head{}, nil, api.ErrFrameSum
	}
	return h, out, api.OK
}
