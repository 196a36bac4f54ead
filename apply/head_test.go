package apply_test

import (
	"testing"

	"sapper/api"
	"sapper/flash"
)

// P24.2: the header's Window just window and one more, and its Look just look and one more: ErrApplySize at the header's last byte.
func TestHeaderOptions(t *testing.T) {
	old := []byte("old")
	for _, c := range []struct {
		window, look         int
		headWindow, headLook int
		fits                 bool
	}{
		{64, 100, 64, 100, true}, {64, 100, 65, 100, false}, {64, 100, 64, 101, false}, {64, 100, 65, 101, false},
		{64, 100, 65536, 1, false}, {64, 100, 64, 1, true}, {64, 1, 64, 1, true}, {64, 1, 64, 2, false},
		{300, 32768, 300, 32768, true}, {300, 32768, 64, 32768, true}, {300, 32768, 301, 1, false}, {300, 32767, 300, 32768, false},
		{65536, 1, 65536, 1, true}, {65535, 32768, 65536, 1, false}, {65536, 32768, 65536, 32768, true},
	} {
		h := headOf(old, []byte("next"))
		h.Window, h.Look = c.headWindow, c.headLook
		p := patchOf(h, plain(0, controlOf(0, 4, 0), nil, []byte("next")))
		x := trial{shape: shape(64, 2), old: old, window: c.window, look: c.look, patch: p}
		if c.fits {
			x.commits(t, "options", []byte("next"))
		} else {
			x.fails(t, "options", len(headBytes(h))-1, api.ErrApplySize, 0, 0)
		}
	}
}

// allOf: a patch that copies all of an image, in windows of 64 bytes.
func allOf(h api.Head, next []byte) []byte {
	var l []part
	for len(next) > 0 {
		n := min(64, len(next))
		l, next = append(l, plain(0, controlOf(0, n, 0), nil, next[:n])), next[n:]
	}
	return patchOf(h, l...)
}

// P24.2: its Old and its New just a slot, and one byte more: ErrApplySize at the header's last byte, ahead of another image.
func TestHeaderSizes(t *testing.T) {
	for _, s := range []api.Shape{shape(64, 1), shape(64, 2), shape(65, 2), shape(100, 3)} {
		slot := s.Page * s.Pages
		for _, c := range []struct {
			old, new int
			fits     bool
		}{
			{slot, slot, true}, {slot, 1, true}, {slot - 1, slot, true}, {0, slot, true}, {slot, 0, true},
			{slot + 1, 1, false}, {1, slot + 1, false}, {slot + 1, slot + 1, false}, {slot + 1, 0, false}, {0, slot + 1, false}, {1 << 24, 1, false}, {1, 1 << 24, false},
		} {
			old, next := counted(3, c.old), counted(9, c.new)
			h := headOf(old, next)
			x := trial{shape: s, old: old[:min(slot, c.old)], window: 64, look: 100}
			if c.fits {
				x.patch = allOf(h, next)
				x.commits(t, "sizes", next)
				continue
			}
			x.patch = headBytes(h)
			x.fails(t, "sizes", len(x.patch)-1, api.ErrApplySize, 0, 0)
			h.OldSum ^= 1
			x.patch = headBytes(h)
			x.fails(t, "sizes, and another image", len(x.patch)-1, api.ErrApplySize, 0, 0)
			x.between = func(f *flash.Flash) { away(t, f) }
			// The log has the operation by which the power went.
			x.fails(t, "sizes, without power", len(x.patch)-1, api.ErrApplySize, 0, 1)
		}
	}
}

// P24.2: an old image of another sum, by each of its bits, also where the image has several pages, and of no bytes; of what stands behind it in the slot nothing is asked.
func TestAnotherImage(t *testing.T) {
	for _, n := range []int{0, 1, 3, 63, 64, 65, 127, 128, 130, 256} {
		old := counted(0, n)
		h := headOf(old, nil)
		x := trial{shape: shape(64, 4), old: old, window: 64, look: 100}
		last := len(headBytes(h)) - 1
		for bit := range 32 {
			h.OldSum ^= 1 << bit
			x.patch = patchOf(h)
			x.fails(t, "another sum", last, api.ErrApplyOld, 0, 0)
			h.OldSum ^= 1 << bit
		}
		x.patch = patchOf(h)
		x.commits(t, "the sum", nil)
		for at := range n {
			x.old = turned(old, at, at%8)
			x.fails(t, "another image", last, api.ErrApplyOld, 0, 0)
		}
		if n < 256 {
			// One that goes on is another one only in what is not looked at.
			x.old = append(counted(0, n), 1)
			x.commits(t, "a longer image", nil)
		}
	}
	x := trial{shape: shape(64, 1), old: []byte("ab"), window: 64, look: 100}
	h := headOf([]byte("abc"), nil)
	x.patch = patchOf(h)
	x.fails(t, "a shorter image", len(x.patch)-5, api.ErrApplyOld, 0, 0)
}

// P24.2: the power is away at the header, by an operation that stands outside of the applier: ErrApplyFlash, ahead of another image; a header without old bytes asks for none.
func TestHeaderWithoutPower(t *testing.T) {
	for _, n := range []int{1, 64, 200} {
		old := counted(0, n)
		h := headOf(old, []byte("x"))
		x := trial{shape: shape(64, 4), old: old, window: 64, look: 100, patch: allOf(h, []byte("x"))}
		x.between = func(f *flash.Flash) { away(t, f) }
		last := len(headBytes(h)) - 1
		x.fails(t, "without power", last, api.ErrApplyFlash, 0, 1)
		h.OldSum ^= 1
		x.patch = allOf(h, []byte("x"))
		x.fails(t, "another image without power", last, api.ErrApplyFlash, 0, 1)
	}
	h := headOf(nil, []byte("x"))
	h.OldSum = 1
	x := trial{shape: shape(64, 4), window: 64, look: 100, patch: allOf(h, []byte("x"))}
	x.between = func(f *flash.Flash) { away(t, f) }
	x.fails(t, "of no bytes, another sum", len(headBytes(h))-1, api.ErrApplyOld, 0, 1)

	f := mustFlash(t, shape(64, 4), 0, []byte("any"))
	a := mustNew(t, f, 64, 100)
	away(t, f)
	ok(t, a.Feed(allOf(headOf(nil, []byte("x")), []byte("x"))))
	if _, told := a.Head(); !told || a.Made() != 1 {
		t.Error(answersOf(a))
	}
	f.Power()
	ok(t, a.Finish())
	expectRead(t, f, 1, filled([]byte("x"), 64))
}

// P24.4: Head ahead of the header's last byte, behind it, and behind a header that was refused by its form, its sum, its sizes, the flash, and the image.
func TestHead(t *testing.T) {
	old, _, h, l := base()
	p := patchOf(h, l[:]...)
	n := len(headBytes(h))
	_, a := baseTrial(p).start(t)
	for i := range p {
		if got, told := a.Head(); told != (i >= n) || told && got != h || !told && got != (api.Head{}) {
			t.Errorf("behind %d bytes: %v, %v", i, got, told)
		}
		ok(t, a.Feed(p[i:i+1]))
	}
	ok(t, a.Finish())
	if got, told := a.Head(); got != h || !told {
		t.Errorf("behind Finish: %v, %v", got, told)
	}
	refused := func(name string, h api.Head, want api.Errno, bend func(f *flash.Flash, p []byte)) {
		t.Helper()
		f, a := baseTrial(nil).start(t)
		p := headBytes(h)
		if bend != nil {
			bend(f, p)
		}
		expect(t, name, a.Feed(append(p, 0)), want)
		if got, told := a.Head(); got != (api.Head{}) || told {
			t.Errorf("%s: %v, %v", name, got, told)
		}
		expectFailed(t, name, a, want, 0)
	}
	with := func(bend func(h *api.Head)) api.Head {
		out := headOf(old, nil)
		bend(&out)
		return out
	}
	refused("by its form", with(func(h *api.Head) { h.Window = 63 }), api.ErrApplyForm, nil)
	refused("by its sum", h, api.ErrApplySum, func(_ *flash.Flash, p []byte) { p[n-1] ^= 1 })
	refused("by its Window", with(func(h *api.Head) { h.Window = 65 }), api.ErrApplySize, nil)
	refused("by its Look", with(func(h *api.Head) { h.Look = 101 }), api.ErrApplySize, nil)
	refused("by its Old", with(func(h *api.Head) { h.Old = 257 }), api.ErrApplySize, nil)
	refused("by its New", with(func(h *api.Head) { h.New = 257 }), api.ErrApplySize, nil)
	refused("by the image", with(func(h *api.Head) { h.OldSum++ }), api.ErrApplyOld, nil)
	refused("by the flash", h, api.ErrApplyFlash, func(f *flash.Flash, _ []byte) { away(t, f) })
}
