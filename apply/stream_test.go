package apply_test

import (
	"fmt"
	"slices"
	"testing"

	"sapper/api"
	"sapper/swell"
)

// bentStream: what stands in a stream's place, and which of its bytes is wrong.
type bentStream struct {
	name  string
	bytes []byte
	at    int
}

// bentStreams: for one that should be of these bytes.
func bentStreams(raw []byte) []bentStream {
	s, n := stored(raw), len(raw)
	last := len(s) - 1
	open := slices.Clone(s)
	open[0] = 0
	more := stored(append(slices.Clone(raw), 1, 2, 3))
	other := slices.Clone(s)
	other[4] ^= 0x10
	return []bentStream{
		{"a kind that is none", []byte{7, 0, 0}, 0},
		{"a kind that is none, as its last byte", []byte{6}, 0},
		{"another second number", other, 4},
		{"a byte behind its end", append(slices.Clone(s), 0), last + 1},
		{"bytes behind its end", append(slices.Clone(s), 1, 2, 3, 4), last + 1},
		{"no last byte", s[:last], last - 1},
		{"just its first byte", s[:1], 0},
		{"all bytes, but no end", open, last},
		{"a byte too few", stored(raw[:n-1]), max(last-1, 0)},
		{"no bytes", []byte{3, 0}, 1},
		{"no bytes, and a byte behind", []byte{3, 0, 0}, 2},
		{"a byte too many, and more", more, last + 1},
		{"a byte too many", more[:len(more)-2], last + 1},
	}
}

// P24.2: a stream of bytes that are none, with bytes behind its end, that has not ended with its packed size's last byte, that makes fewer bytes than its raw size, or more: ErrApplyForm at that byte, in any stream of any window; the windows ahead of it are made.
func TestWrongStream(t *testing.T) {
	_, _, h, l := base()
	for i := range l {
		for k := range 3 {
			if l[i].raw[k] == 0 {
				continue
			}
			// A stored block's bytes stand behind its five.
			for _, b := range bentStreams(l[i].packed[k][5:]) {
				if len(stored(nil)) == len(b.bytes) {
					continue // a frame with no bytes for it is refused by itself
				}
				bent := l
				bent[i].packed[k] = b.bytes
				at := placeOf(h, bent[:], i) + b.at
				for _, p := range bent[i].packed[:k] {
					at += len(p)
				}
				name := fmt.Sprintf("window %d, stream %d: %s", i, k, b.name)
				baseTrial(patchOf(h, bent[:]...)).fails(t, name, at, api.ErrApplyForm, 64*i, 2*i)
			}
		}
	}
}

// failing: the byte at which a swell says that a stream is wrong.
func failing(t *testing.T, stream []byte, look, most int) int {
	t.Helper()
	s, err := swell.New(look, most)
	ok(t, err)
	for i := range stream {
		if _, _, err := s.Step(stream[i:i+1], most+1); err != api.OK {
			return i
		}
	}
	t.Fatalf("% x is not wrong", stream)
	return 0
}

// P24.2: a distance just the header's Look, and one above it, which is within the applier's look: ErrApplyForm when its last bit is there; in the control, the diff and the extra.
func TestDistanceOfLook(t *testing.T) {
	old := counted(0, 100)
	for far := 2; far <= 4; far++ {
		steps := []int{1, 0, 0, 2, 0, 0, 3, 0, 0, 4, 0, 0}[:3*far]
		own, adds := counted(1, far), far*(far+1)/2
		control := slices.Concat(controlOf(steps...), controlOf(20-adds, 30, 0))
		diff := append(slices.Clone(own), make([]byte, 20-far)...)
		for i := far; i < 20; i++ {
			diff[i] = diff[i-far]
		}
		extra := slices.Repeat([]byte{7, 8, 9, 10}, 8)[:30]
		for i := far; i < 30; i++ {
			extra[i] = extra[i-far]
		}
		next := append(slices.Clone(old[:20]), extra...)
		for i := range 20 {
			next[i] += diff[i]
		}
		p := plain(0, control, diff, extra)
		p.packed[1], _ = copied(diff[:20-18], far, 6)
		if far > 2 {
			p.packed[1], _ = copied(diff[:20-15], far, 5)
		}
		var first int
		p.packed[2], first = copied(extra[:6], far, 8)
		for _, look := range []int{far, far + 1, far - 1} {
			h := headOf(old, next)
			h.Look = look
			x := baseTrial(patchOf(h, p))
			if look >= far {
				x.commits(t, "a distance within Look", next)
				continue
			}
			at := placeOf(h, []part{p}, 0) + len(p.packed[0])
			x.fails(t, "of the diff", at+failing(t, p.packed[1], look, 20), api.ErrApplyForm, 0, 0)
			q := p
			q.packed[1] = stored(diff)
			at = placeOf(h, []part{q}, 0) + len(q.packed[0]) + len(q.packed[1])
			if n := failing(t, q.packed[2], look, 30); n != (first-1)/8 {
				t.Errorf("wrong at byte %d, not at that of bit %d", n, first)
			}
			x.patch = patchOf(h, q)
			x.fails(t, "of the extra", at+(first-1)/8, api.ErrApplyForm, 0, 0)
		}
	}
	// The control's: the same step over and over.
	control, _ := copied([]byte{1, 1, 0}, 3, 9)
	p := plain(0, slices.Repeat([]byte{1, 1, 0}, 10), counted(0, 10), counted(0, 10))
	p.packed[0] = control
	next := make([]byte, 20)
	for i := range 10 {
		next[2*i], next[2*i+1] = old[i]+byte(i), byte(i)
	}
	h := headOf(old, next)
	h.Look = 3
	x := baseTrial(patchOf(h, p))
	x.commits(t, "the control's", next)
	h.Look = 2
	x.patch = patchOf(h, p)
	x.fails(t, "the control's", placeOf(h, []part{p}, 0)+failing(t, control, 2, 30), api.ErrApplyForm, 0, 0)
}

// P24.2: each stream begins anew: a match that leads to what stood in the stream ahead of it, or in the window ahead, is wrong.
func TestStreamsBeginAnew(t *testing.T) {
	old := counted(0, 100)
	far, _ := copied(nil, 1, 1)
	next := slices.Concat(old[:61], []byte{1, 1, 1}, []byte{0, 0, 0})
	h := headOf(old, next)
	first := plain(0, controlOf(61, 3, 0), make([]byte, 61), []byte{1, 1, 1})
	second := plain(0, controlOf(0, 3, 0), nil, []byte{0, 0, 0})
	x := baseTrial(patchOf(h, first, second))
	x.commits(t, "as they are", next)
	bent := first
	bent.packed[2] = far
	at := placeOf(h, []part{bent}, 0) + len(bent.packed[0]) + len(bent.packed[1])
	x.patch = patchOf(h, bent, second)
	x.fails(t, "into the stream ahead", at+failing(t, far, 100, 3), api.ErrApplyForm, 0, 0)
	bent = second
	bent.packed[0] = far
	x.patch = patchOf(h, first, bent)
	x.fails(t, "into the window ahead", placeOf(h, []part{first, bent}, 1)+failing(t, far, 100, 3), api.ErrApplyForm, 64, 2)
	bent = second
	bent.packed[2] = far
	x.patch = patchOf(h, first, bent)
	at = placeOf(h, []part{first, bent}, 1) + len(bent.packed[0])
	x.fails(t, "into the control", at+failing(t, far, 100, 3), api.ErrApplyForm, 64, 2)
}

// P24.2: streams of several blocks, of all kinds, that begin and end within a byte, with bytes that come out of nothing but a match, and of no bytes within them.
func TestStreamsOfManyBlocks(t *testing.T) {
	old := counted(0, 100)
	own := counted(1, 40)
	next := append(slices.Clone(old[:24]), own...)
	p := plain(0, controlOf(24, 40, 0), make([]byte, 24), own)
	var r bitRow
	for range 5 {
		r.put(2, 3) // a plain block of none
		r.code(0, 7)
	}
	p.packed[2] = slices.Concat(r.bytes, []byte{0, 0, 0, 255, 255}, p.packed[2])
	if r.count%8 == 0 || r.count%8 > 5 {
		t.Fatal(r.count)
	}
	p.packed[2] = slices.Delete(p.packed[2], len(r.bytes), len(r.bytes)+1)
	zeros, _ := copied([]byte{0, 0, 0}, 1, 7)
	p.packed[1] = zeros
	x := baseTrial(patchOf(headOf(old, next), p))
	x.commits(t, "many blocks", next)
}

// P24.2: the raw size is each stream's own cap, not that of one ahead, be it greater or less.
func TestCapsOfTheirOwn(t *testing.T) {
	old := counted(0, 100)
	for _, adds := range []int{1, 10, 32, 54, 63} {
		next := slices.Concat(old[:adds], counted(7, 64-adds), old[:64-adds], counted(9, adds))
		first := plain(0, controlOf(adds, 64-adds, 0), make([]byte, adds), counted(7, 64-adds))
		second := plain(0, controlOf(64-adds, adds, 0), make([]byte, 64-adds), counted(9, adds))
		h := headOf(old, next)
		x := baseTrial(patchOf(h, first, second))
		x.commits(t, "caps", next)
		for k, n := range [3]int{3, 64 - adds, adds} {
			bent := second
			bent.packed[k] = stored(append(slices.Clone(second.packed[k][5:]), 0))
			at := placeOf(h, []part{first, bent}, 1)
			for _, b := range bent.packed[:k] {
				at += len(b)
			}
			x.patch = patchOf(h, first, bent)
			x.fails(t, "one too many", at+5+n, api.ErrApplyForm, 64, 2)
		}
	}
}
