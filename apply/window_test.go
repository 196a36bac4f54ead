package apply_test

import (
	"slices"
	"testing"

	"sapper/api"
	"sapper/flash"
)

// P24.2: a window is whole with the last byte of the last of its streams that have bytes: the diff's where there is no extra, the extra's where there is no diff or where there are both. Just then its bytes are made.
func TestWhole(t *testing.T) {
	old, _, h, l := base()
	l[0] = plain(0, controlOf(64, 0, 0), make([]byte, 64), nil)
	l[1] = plain(0, controlOf(0, 64, 0), nil, counted(0, 64))
	next := slices.Concat(old[:64], counted(0, 64), old[97:])
	for i := range 3 {
		next[128+i] += l[2].packed[1][5+i]
	}
	h = headOf(old, next)
	p := patchOf(h, l[:]...)
	x := baseTrial(p)
	x.commits(t, "whole", next)
	f, a := x.start(t)
	ends := [3]int{}
	for i := range l {
		ends[i] = placeOf(h, l[:], i) + len(slices.Concat(l[i].packed[:]...))
	}
	for at := range p {
		ok(t, a.Feed(p[at:at+1]))
		made, ops := 0, 0
		for i, end := range ends {
			if at+1 >= end {
				made, ops = min(64*(i+1), 131), min(2*(i+1), 4)
			}
		}
		if a.Made() != made || f.Ops() != ops {
			t.Errorf("behind %d bytes: Made %d, %d operations, not %d, %d", at+1, a.Made(), f.Ops(), made, ops)
		}
	}
}

// bentWindows: windows that may not be, of a first window of 64 bytes over 100 old ones, four pages of 64 bytes: by their control's form, by themselves, and by their readings.
func bentWindows() map[string]struct {
	p    part
	want api.Errno
} {
	diff, extra := counted(0, 30), counted(0, 34)
	of := func(pos int, control ...byte) part { return plain(pos, control, diff, extra) }
	steps := func(pos int, l ...int) part { return of(pos, controlOf(l...)...) }
	type bent = struct {
		p    part
		want api.Errno
	}
	form, read := api.ErrApplyForm, api.ErrApplyRead
	return map[string]bent{
		"a control that ends within a step":        {of(0, 30, 34), form},
		"a control that ends within a number":      {of(0, 30, 34, 0x80), form},
		"a number that is not in its shortest":     {of(0, 0x9e, 0, 34, 0), form},
		"a number that is too long":                {of(0, slices.Concat([]byte{30, 34}, slices.Repeat([]byte{0xff}, 10))...), form},
		"a number that is too great":               {steps(0, 65537, 34, 0), form},
		"a Seek beyond all images":                 {steps(0, 30, 0, 1<<24+1, 0, 34, 0), form},
		"fewer added bytes than the diff":          {steps(0, 29, 34, 0), form},
		"more added bytes than the diff":           {steps(0, 31, 34, 0), form},
		"fewer copied bytes than the extra":        {steps(0, 30, 33, 0), form},
		"more copied bytes than the extra":         {steps(0, 30, 35, 0), form},
		"more added and fewer copied bytes":        {steps(0, 31, 33, 0), form},
		"an empty step":                            {steps(0, 30, 34, 0, 0, 0, 0), form},
		"an empty step with a Seek":                {steps(0, 10, 34, 0, 0, 0, 1, 20, 0, 0), form},
		"a last Seek":                              {steps(0, 30, 34, 1), form},
		"a Seek below the first byte":              {steps(5, 10, 0, -16, 20, 34, 0), form},
		"a Seek to the end of all and on":          {steps(0, 10, 0, 1<<24-10, 20, 34, 0), form},
		"an Add beyond Old":                        {steps(71, 30, 34, 0), read},
		"an Add beyond Old by all":                 {steps(100, 30, 34, 0), read},
		"a Seek beyond Old":                        {steps(0, 10, 0, 91, 20, 34, 0), read},
		"a Seek beyond Old and back":               {steps(0, 10, 1, 91, 0, 33, -101, 20, 0, 0), read},
		"an Add beyond Old behind a Seek":          {steps(0, 10, 0, 71, 20, 34, 0), read},
		"an Add beyond the slot":                   {steps(0, 10, 0, 246, 20, 34, 0), read},
		"a Seek far beyond the slot":               {steps(0, 10, 0, 1<<24-30, 20, 34, 0), read},
		"an Add beyond Old, and an empty step":     {steps(71, 30, 34, 0, 0, 0, 0), form},
		"an Add beyond Old, and fewer copied ones": {steps(71, 30, 33, 0), form},
		"an Add beyond Old, and a last Seek":       {steps(71, 30, 34, -1), form},
	}
}

// P24.2: a window whose control is none, that cutter.Check refuses by itself: ErrApplyForm; that reads outside of Old, inside of the slot or not: ErrApplyRead, behind ErrApplyForm; with its last byte. Nothing of it is made, and without power it is the same.
func TestWrongWindow(t *testing.T) {
	old := counted(0, 100)
	first := plain(0, controlOf(64, 0, 0), make([]byte, 64), nil)
	for name, b := range bentWindows() {
		next := make([]byte, 64)
		h := headOf(old, next)
		x := baseTrial(patchOf(h, b.p))
		at := len(x.patch) - 5
		x.fails(t, name, at, b.want, 0, 0)
		x.between = func(f *flash.Flash) { away(t, f) }
		x.fails(t, name+", without power", at, b.want, 0, 1)

		h = headOf(old, make([]byte, 128))
		x = baseTrial(patchOf(h, first, b.p))
		x.fails(t, name+", the second window", len(x.patch)-5, b.want, 64, 2)
	}
}

// P24.2: readings at the very end of Old: all of it, its last byte, none at Old itself; and a place that is Old with nothing read behind it.
func TestReadingsAtTheEnd(t *testing.T) {
	for _, n := range []int{1, 30, 64, 100, 256} {
		old := counted(3, n)
		for name, c := range map[string]struct {
			pos     int
			control []int
			places  []int // -1: copied
		}{
			"the last byte":           {n - 1, []int{1, 0, 0}, []int{n - 1}},
			"none at Old":             {n, []int{0, 1, 0}, []int{-1}},
			"to Old and back":         {0, []int{1, 1, n - 1, 0, 1, -n, 1, 0, 0}, []int{0, -1, -1, 0}},
			"a byte, and on to Old":   {n - 1, []int{1, 2, 0}, []int{n - 1, -1, -1}},
			"the last one, and first": {n - 1, []int{1, 0, -n, 1, 0, 0}, []int{n - 1, 0}},
		} {
			var diff, extra, next []byte
			for i, at := range c.places {
				if at < 0 {
					extra, next = append(extra, byte(50+i)), append(next, byte(50+i))
				} else {
					diff, next = append(diff, byte(250+i)), append(next, old[at]+byte(250+i))
				}
			}
			x := baseTrial(patchOf(headOf(old, next), plain(c.pos, controlOf(c.control...), diff, extra)))
			x.old = old
			x.commits(t, name, next)
		}
	}
}

// P24.2: a window that wants no byte of the old slot asks for none: with the power away it is made, as long as no page is whole; one that wants a byte is not.
func TestWindowWithoutPower(t *testing.T) {
	old := []byte("old")
	next := []byte("copied, and copied")
	h := headOf(old, next)
	for name, c := range map[string]struct {
		p    part
		want api.Errno
	}{
		"copied":                      {plain(3, controlOf(0, 18, 0), nil, next), api.OK},
		"copied in steps, with Seeks": {plain(0, controlOf(0, 1, 3, 0, 10, -2, 0, 7, 0), nil, next), api.OK},
		"a byte that is added to":     {plain(0, controlOf(0, 17, 0, 1, 0, 0), []byte{1}, next[:17]), api.ErrApplyFlash},
	} {
		f, a := trial{shape: shape(64, 2), old: old, window: 64, look: 100}.start(t)
		p := patchOf(h, c.p)
		ok(t, a.Feed(p[:len(headBytes(h))]))
		away(t, f)
		expect(t, name, a.Feed(p[len(headBytes(h)):]), c.want)
		if c.want != api.OK {
			f.Power()
			expectFailed(t, name, a, c.want, 0)
			continue
		}
		if a.Made() != 18 {
			t.Errorf("%s: Made %d", name, a.Made())
		}
		f.Power()
		ok(t, a.Finish())
		expectRead(t, f, 1, filled(next, 64))
	}
}

// P24.2: old bytes are read when their window is whole: what the old slot has then counts.
func TestReadWhenWhole(t *testing.T) {
	old := counted(0, 100)
	next := slices.Repeat([]byte{255}, 64)
	f, a := baseTrial(nil).start(t)
	p := patchOf(headOf(old, next), plain(0, controlOf(64, 0, 0), make([]byte, 64), nil))
	ok(t, a.Feed(p[:len(p)-5]), f.Erase(0, 0), a.Feed(p[len(p)-5:]), a.Finish())
	expectRead(t, f, 1, next)
}
