package apply_test

import (
	"math/bits"
	"slices"
	"testing"

	"sapper/api"
	"sapper/maker"
	"sapper/press"
)

// four: bytes, the least first.
func four(v uint32) []byte {
	return []byte{byte(v % 256), byte(v / 256 % 256), byte(v / 65536 % 256), byte(v / 16777216)}
}

// sealed: parts, one behind the other, and their sum.
func sealed(parts ...[]byte) []byte {
	all := slices.Concat(parts...)
	return append(all, four(sumOf(all))...)
}

// shortest: numbers' shortest forms, by chapter 1.
func shortest(l ...int) []byte {
	var out []byte
	for _, v := range l {
		for v >= 128 {
			out = append(out, byte(128+v%128))
			v /= 128
		}
		out = append(out, byte(v))
	}
	return out
}

// controlOf: of steps, three numbers each, by chapter 17, whether they may be or not.
func controlOf(l ...int) []byte {
	var out []byte
	for s := range slices.Chunk(l, 3) {
		zig := 2 * s[2]
		if s[2] < 0 {
			zig = -2*s[2] - 1
		}
		out = append(out, shortest(s[0], s[1], zig)...)
	}
	return out
}

// stored: a stream of bytes, in stored blocks of at most 65535; of no bytes there is none.
func stored(raw []byte) []byte {
	var out []byte
	for block := range slices.Chunk(raw, 65535) {
		n := uint16(len(block))
		out = append(append(out, 0, byte(n), byte(n>>8), byte(^n), byte(^n>>8)), block...)
	}
	if len(raw) > 0 {
		out[(len(raw)-1)/65535*65540] = 1 // the last one begins there
	}
	return out
}

// bitRow: a stream that is written bit by bit.
type bitRow struct {
	bytes []byte
	count int
}

// put: the n lowest bits of v, the lowest first.
func (r *bitRow) put(v, n int) {
	for i := range n {
		if r.count%8 == 0 {
			r.bytes = append(r.bytes, 0)
		}
		r.bytes[r.count/8] |= byte(v>>i&1) << (r.count % 8)
		r.count++
	}
}

// code: n bits, the highest first.
func (r *bitRow) code(v, n int) { r.put(int(bits.Reverse32(uint32(v))>>(32-n)), n) }

// copied: a stream of a plain block: bytes below 144, and then as often as count says a match of three bytes, so far back (1 to 4); and how many bits it has up to the first match's end.
func copied(own []byte, far, count int) ([]byte, int) {
	var r bitRow
	r.put(3, 3)
	for _, v := range own {
		r.code(0x30+int(v), 8)
	}
	first := 0
	for i := range count {
		r.code(1, 7)
		r.code(far-1, 5)
		if i == 0 {
			first = r.count
		}
	}
	r.code(0, 7)
	return r.bytes, first
}

// part: a window's frame: its numbers, and its streams as they are packed, all of which may be bent.
type part struct {
	pos    int
	raw    [3]int
	packed [3][]byte
}

// numbers: the frame's seven.
func (p part) numbers() []byte {
	return shortest(p.pos, p.raw[0], p.raw[1], p.raw[2], len(p.packed[0]), len(p.packed[1]), len(p.packed[2]))
}

// bytes: the whole frame.
func (p part) bytes() []byte { return slices.Concat(p.numbers(), slices.Concat(p.packed[:]...)) }

// plain: of a control, a diff and an extra, in stored blocks.
func plain(pos int, control, diff, extra []byte) part {
	out := part{pos: pos}
	for k, b := range [][]byte{control, diff, extra} {
		out.raw[k], out.packed[k] = len(b), stored(b)
	}
	return out
}

// pressed: of a window, whether it may be or not, as frame.Encode presses it.
func pressed(t *testing.T, w api.Window, o api.Press) part {
	t.Helper()
	var l []int
	for _, s := range w.Edit.Steps {
		l = append(l, s.Add, s.Copy, s.Seek)
	}
	out := part{pos: w.Pos}
	for k, b := range [][]byte{controlOf(l...), w.Edit.Diff, w.Edit.Extra} {
		if len(b) == 0 {
			continue
		}
		p, err := press.Press(b, o)
		ok(t, err)
		out.raw[k], out.packed[k] = len(b), p
	}
	return out
}

// headBytes: a header's bytes, by chapter 18, whether it may be or not.
func headBytes(h api.Head) []byte {
	return sealed([]byte("SAPR\x01"), shortest(h.Old, h.New, h.Window, h.Look), four(h.OldSum), four(h.NewSum))
}

// patchOf: a patch's bytes, whether it may be or not.
func patchOf(h api.Head, l ...part) []byte {
	parts := [][]byte{headBytes(h)}
	for _, p := range l {
		parts = append(parts, p.bytes())
	}
	return sealed(parts...)
}

// headOf: of two images, with windows of 64 bytes and a look of 100.
func headOf(old, next []byte) api.Head {
	return api.Head{Old: len(old), New: len(next), OldSum: sumOf(old), NewSum: sumOf(next), Window: 64, Look: 100}
}

// usual: the options of the chapter's examples.
func usual() api.Options {
	return api.Options{Window: 64, Press: api.Press{Look: api.Look{Window: 100, Chain: 10}, Block: 100}}
}

// mustGenerate: a patch that there must be.
func mustGenerate(t *testing.T, old, next []byte, o api.Options) []byte {
	t.Helper()
	p, err := maker.Generate(old, next, o)
	ok(t, err)
	return p
}

// counted: n bytes that rise from one on, by modulo 251.
func counted(from, n int) []byte {
	out := make([]byte, n)
	for i := range out {
		out[i] = byte((from + i) % 251)
	}
	return out
}

// base: an old image of 100 bytes, a new one of 131 in three windows of 64, 64 and 3 bytes, and their frames: the first adds 30 bytes from place 5 on and copies 34; the second copies, then adds 20 from place 80 on, and 43 from place 40 on, which crosses a page's end; the third adds its three. All in stored blocks.
func base() (old, next []byte, h api.Head, l [3]part) {
	old = counted(0, 100)
	diffs, extras := counted(200, 96), counted(100, 35)
	add := func(from, n int) {
		for i := range n {
			next = append(next, old[from+i]+diffs[i])
		}
		diffs = diffs[n:]
	}
	own := func(n int) {
		next, extras = append(next, extras[:n]...), extras[n:]
	}
	add(5, 30)
	own(34)
	own(1)
	add(80, 20)
	add(40, 43)
	add(97, 3)
	d, x := counted(200, 96), counted(100, 35)
	l[0] = plain(5, controlOf(30, 34, 0), d[:30], x[:34])
	l[1] = plain(80, controlOf(0, 1, 0, 20, 0, -60, 43, 0, 0), d[30:93], x[34:])
	l[2] = plain(97, controlOf(3, 0, 0), d[93:], nil)
	return old, next, headOf(old, next), l
}

// baseTrial: of a patch for the base's old image, over four pages of 64 bytes.
func baseTrial(patch []byte) trial {
	old, _, _, _ := base()
	return trial{shape: shape(64, 4), old: old, window: 64, look: 100, patch: patch}
}

// placeOf: where the i-th frame's streams begin in a patch.
func placeOf(h api.Head, l []part, i int) int {
	at := len(headBytes(h))
	for _, p := range l[:i] {
		at += len(p.bytes())
	}
	return at + len(l[i].numbers())
}
