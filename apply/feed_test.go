package apply_test

import (
	"slices"
	"testing"

	"sapper/api"
)

// P24.2 to P24.4: the chapter's examples 1 and 2: in one Feed, byte by byte, and with empty pieces.
func TestExampleOfSuccess(t *testing.T) {
	p := mustGenerate(t, []byte("old"), []byte("new"), usual())
	for step := 1; step <= len(p); step++ {
		for _, none := range []int{0, 1, 3} {
			f, a := small(t)
			for part := range slices.Chunk(p, step) {
				ok(t, a.Feed(part))
				for range none {
					ok(t, a.Feed(nil), a.Feed([]byte{}))
				}
			}
			h, told := a.Head()
			want := api.Head{Old: 3, New: 3, OldSum: sumOf([]byte("old")), NewSum: sumOf([]byte("new")), Window: 64, Look: 100}
			if a.Made() != 3 || f.Ops() != 0 || a.Committed() || a.Err() != api.OK || h != want || !told {
				t.Errorf("by %d: ahead of Finish: %s, %v", step, answersOf(a), f.Log())
			}
			ok(t, a.Finish())
			if !slices.Equal(f.Log(), inOrder(1, 2)) || !a.Committed() {
				t.Errorf("by %d: %v, %v", step, f.Log(), a.Committed())
			}
			expect(t, "Feed of none", a.Feed(nil), api.ErrApplyOver)
			expectRead(t, f, 1, filled([]byte("new"), 128))
			expectRead(t, f, 0, filled([]byte("old"), 128))
		}
	}
}

// P24.2, P24.3: the chapter's examples 3 to 5.
func TestExamplesOfFailure(t *testing.T) {
	x := trial{shape: shape(64, 2), old: []byte("old"), window: 64, look: 100}
	x.patch = mustGenerate(t, []byte("odd"), []byte("new"), usual())
	x.fails(t, "for another image", 20, api.ErrApplyOld, 0, 0)
	x.patch = mustGenerate(t, []byte("old"), make([]byte, 129), usual())
	x.fails(t, "to 129 bytes", 21, api.ErrApplySize, 0, 0)
	x.patch = []byte("X")
	x.fails(t, "a first byte X", 0, api.ErrApplyForm, 0, 0)

	p := mustGenerate(t, []byte("old"), []byte("new"), usual())
	_, a := small(t)
	ok(t, a.Feed(p[:len(p)-1]))
	expect(t, "Finish ahead of the last byte", a.Finish(), api.ErrApplyForm)
	expect(t, "Feed of the rest", a.Feed(p[len(p)-1:]), api.ErrApplyForm)

	p[len(p)-1] ^= 1
	x.patch = p
	x.fails(t, "the last byte turned", len(p)-1, api.ErrApplySum, 3, 0)
}

// G1 and the document's examples of the whole 1 to 3: of no bytes to none, from none, to none, and to itself; an applier over the base, which is held against all else here.
func TestCommits(t *testing.T) {
	for _, c := range [][2]string{{"", ""}, {"", "abc"}, {"abc", ""}, {"abcdefghij", "abcdefghij"}, {"old", "new"}} {
		x := trial{shape: shape(64, 2), old: []byte(c[0]), window: 64, look: 100}
		x.patch = mustGenerate(t, []byte(c[0]), []byte(c[1]), usual())
		x.commits(t, c[0]+" to "+c[1], []byte(c[1]))
	}
	_, next, h, l := base()
	x := baseTrial(patchOf(h, l[:]...))
	x.commits(t, "the base", next)
	for _, s := range []api.Shape{shape(64, 3), shape(65, 3), shape(100, 2), shape(131, 1), shape(4096, 4096)} {
		x.shape = s
		x.commits(t, "the base", next)
		x.active = 1 - x.active
	}
	x.window, x.look = 65536, 32768
	x.commits(t, "the base", next)
}

// turned: bytes with one bit of one of them turned.
func turned(p []byte, at int, bit int) []byte {
	out := slices.Clone(p)
	out[at] ^= 1 << bit
	return out
}

// P24.2: a wrong byte of what every patch begins with, each of its bits turned: ErrApplyForm at it.
func TestWrongMagic(t *testing.T) {
	_, _, h, l := base()
	p := patchOf(h, l[:]...)
	for at := range 5 {
		for bit := range 8 {
			baseTrial(turned(p, at, bit)).fails(t, "magic", at, api.ErrApplyForm, 0, 0)
		}
	}
	baseTrial([]byte("sapr")).fails(t, "sapr", 0, api.ErrApplyForm, 0, 0)
	baseTrial([]byte("SAPR\x02")).fails(t, "2", 4, api.ErrApplyForm, 0, 0)
	baseTrial([]byte("SAPS\x01")).fails(t, "SAPS", 3, api.ErrApplyForm, 0, 0)
}

// numbersWith: a header's bytes, with one of its numbers given as bytes.
func numbersWith(h api.Head, i int, b []byte) []byte {
	l := [][]byte{shortest(h.Old), shortest(h.New), shortest(h.Window), shortest(h.Look)}
	l[i] = b
	return sealed([]byte("SAPR\x01"), slices.Concat(l...), four(h.OldSum), four(h.NewSum))
}

// P24.2: a number of the header, and one of a frame, that is not in its shortest form, or too long: ErrApplyForm at that byte.
func TestWrongNumber(t *testing.T) {
	_, _, h, l := base()
	long := slices.Concat(slices.Repeat([]byte{0xff}, 9), []byte{2})
	for i := range 4 {
		at := 5 + len(slices.Concat([][]byte{shortest(h.Old), shortest(h.New), shortest(h.Window), shortest(h.Look)}[:i]...))
		baseTrial(numbersWith(h, i, []byte{0x80, 0})).fails(t, "a header's number", at+1, api.ErrApplyForm, 0, 0)
		baseTrial(numbersWith(h, i, long)).fails(t, "a header's number", at+9, api.ErrApplyForm, 0, 0)
	}
	for k := range l {
		head := headBytes(h)
		for _, p := range l[:k] {
			head = append(head, p.bytes()...)
		}
		made := 64 * k
		for i := range 7 {
			n := len(head)
			numbers := slices.Clone(head)
			for _, v := range l[k].numbers()[:i] {
				numbers, n = append(numbers, v), n+1
			}
			// The base's numbers are all of one byte.
			baseTrial(slices.Concat(numbers, []byte{0x80, 0})).fails(t, "a frame's number", n+1, api.ErrApplyForm, made, made/64*2)
			baseTrial(slices.Concat(numbers, long)).fails(t, "a frame's number", n+9, api.ErrApplyForm, made, made/64*2)
		}
	}
}

// P24.2: a header that may not be: ErrApplyForm at its last byte, if its sum is right; also where its sizes would not fit the device.
func TestWrongHeader(t *testing.T) {
	_, _, h, _ := base()
	for _, c := range []struct {
		i, v int
	}{{0, 1<<24 + 1}, {1, 1<<24 + 1}, {2, 0}, {2, 63}, {2, 65537}, {3, 0}, {3, 32769}, {0, 1 << 40}, {1, 1 << 62}} {
		p := numbersWith(h, c.i, shortest(c.v))
		x := baseTrial(p)
		x.fails(t, "a header that may not be", len(p)-1, api.ErrApplyForm, 0, 0)
		x.shape, x.window, x.look = shape(4096, 4096), 65536, 32768
		x.fails(t, "a header that may not be", len(p)-1, api.ErrApplyForm, 0, 0)
		p[len(p)-4] ^= 1
		x.fails(t, "with another sum", len(p)-1, api.ErrApplySum, 0, 0)
	}
}

// P24.2: the header's sum with any of its bits turned, or any of the header's sums: ErrApplySum at the header's last byte, ahead of all that its numbers would say.
func TestWrongHeadSum(t *testing.T) {
	_, _, h, l := base()
	n := len(headBytes(h))
	p := patchOf(h, l[:]...)
	for at := n - 12; at < n; at++ {
		for bit := range 8 {
			baseTrial(turned(p, at, bit)).fails(t, "a header's sum", n-1, api.ErrApplySum, 0, 0)
		}
	}
	h.Window, h.Look, h.Old, h.OldSum = 65, 101, 5000, 1
	p = headBytes(h)
	p[len(p)-1] ^= 1
	baseTrial(p).fails(t, "a header's sum", len(p)-1, api.ErrApplySum, 0, 0)
}

// P24.2: a frame's numbers that may not be: ErrApplyForm at the last byte of the last one, of any window; the windows ahead of it are made.
func TestWrongSizes(t *testing.T) {
	_, _, h, l := base()
	for k := range l {
		for name, bend := range map[string]func(p *part){
			"Pos beyond Old":             func(p *part) { p.pos = 101 },
			"no control":                 func(p *part) { p.raw[0] = 0 },
			"too much control":           func(p *part) { p.raw[0] = 6*64 + 1 },
			"one more of the diff":       func(p *part) { p.raw[1]++ },
			"one fewer of the diff":      func(p *part) { p.raw[1]-- },
			"one more of the extra":      func(p *part) { p.raw[2]++ },
			"a packed size 0":            func(p *part) { p.packed[0] = nil },
			"a packed size 0, diff":      func(p *part) { p.packed[1] = nil },
			"a packed size where no raw": func(p *part) { p.raw[1], p.raw[2], p.packed[2] = 0, p.raw[1]+p.raw[2], p.packed[1] },
			"a packed size too great":    func(p *part) { p.packed[0] = make([]byte, 4*p.raw[0]+65) },
		} {
			bent := l
			bend(&bent[k])
			at := placeOf(h, bent[:], k) - 1
			baseTrial(patchOf(h, bent[:]...)).fails(t, name, at, api.ErrApplyForm, 64*k, 2*k)
		}
	}
	l[0].raw[0] = 6 * 64
	l[0].packed[0] = stored(make([]byte, 6*64))
	x := baseTrial(patchOf(h, l[:]...))
	_, a := x.start(t)
	ok(t, a.Feed(x.patch[:placeOf(h, l[:], 0)]))
}

// P24.2: the patch's sum with any of its bits turned: ErrApplySum at its last byte; all windows are made then.
func TestWrongSum(t *testing.T) {
	_, _, h, l := base()
	p := patchOf(h, l[:]...)
	for at := len(p) - 4; at < len(p); at++ {
		for bit := range 8 {
			baseTrial(turned(p, at, bit)).fails(t, "the sum", len(p)-1, api.ErrApplySum, 131, 4)
		}
	}
	x := trial{shape: shape(64, 2), window: 64, look: 100, patch: patchOf(headOf(nil, nil))}
	x.patch[24] ^= 0x80
	x.fails(t, "the sum of a patch of none", 24, api.ErrApplySum, 0, 0)
}

// P24.2: a byte behind the patch's end: ErrApplyForm, in the same Feed and in a later one; none behind it: OK.
func TestBehindTheEnd(t *testing.T) {
	_, _, h, l := base()
	for _, p := range [][]byte{patchOf(h, l[:]...), patchOf(headOf(counted(0, 100), nil))} {
		made, ops := 131, 4
		if len(p) < 30 {
			made, ops = 0, 0
		}
		for _, more := range [][]byte{{0}, {'S'}, {255, 0}, p, make([]byte, 300)} {
			baseTrial(slices.Concat(p, more)).fails(t, "behind the end", len(p), api.ErrApplyForm, made, ops)
		}
		f, a := baseTrial(p).start(t)
		ok(t, a.Feed(p), a.Feed(nil), a.Feed([]byte{}), a.Finish())
		if len(f.Log()) != (made+63)/64*2 {
			t.Error(f.Log())
		}
	}
}
