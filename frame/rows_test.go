package frame_test

import (
	"bytes"
	"math"
	"slices"
	"testing"

	"sapper/api"
	"sapper/frame"
)

// steps: of three numbers each.
func steps(l ...int) []api.Step {
	var out []api.Step
	for part := range slices.Chunk(l, 3) {
		out = append(out, api.Step{Add: part[0], Copy: part[1], Seek: part[2]})
	}
	return out
}

// plain: an edit of these steps, which may be; its bytes are told apart by their places.
func plain(l ...int) api.Edit {
	out := api.Edit{Steps: steps(l...)}
	for _, s := range out.Steps {
		for range s.Add {
			out.Diff = append(out.Diff, byte(len(out.Diff)))
		}
		for range s.Copy {
			out.Extra = append(out.Extra, byte(100+len(out.Extra)))
		}
	}
	return out
}

// window: one of such an edit.
func window(pos int, l ...int) api.Window { return api.Window{Pos: pos, Edit: plain(l...)} }

// options: by which streams of that look are pressed.
func options(look int) api.Press {
	return api.Press{Look: api.Look{Window: look, Chain: 10}, Block: 50}
}

// sizes: of seven numbers.
func sizes(l ...int) api.Sizes {
	return api.Sizes{Pos: l[0], Raw: [3]int(l[1:4]), Packed: [3]int(l[4:7])}
}

// sameEdit: the same steps and bytes?
func sameEdit(a, b api.Edit) bool {
	return slices.Equal(a.Steps, b.Steps) && bytes.Equal(a.Diff, b.Diff) && bytes.Equal(a.Extra, b.Extra)
}

// sameWindows: the same windows?
func sameWindows(a, b []api.Window) bool {
	return slices.EqualFunc(a, b, func(x, y api.Window) bool { return x.Pos == y.Pos && sameEdit(x.Edit, y.Edit) })
}

// clonedWindow: a window as it is now.
func clonedWindow(w api.Window) api.Window {
	e := w.Edit
	return api.Window{Pos: w.Pos, Edit: api.Edit{Steps: slices.Clone(e.Steps), Diff: slices.Clone(e.Diff), Extra: slices.Clone(e.Extra)}}
}

// clonedWindows: windows as they are now.
func clonedWindows(l []api.Window) []api.Window {
	var out []api.Window
	for _, w := range l {
		out = append(out, clonedWindow(w))
	}
	return out
}

// mustEncode: a patch that there must be.
func mustEncode(t *testing.T, h api.Head, o api.Press, l ...api.Window) []byte {
	t.Helper()
	b, err := frame.Encode(h, o, l...)
	if err != api.OK {
		t.Fatalf("Encode(%v, %v, %v): %v", h, o, l, err)
	}
	return b
}

// ends: of all numbers, and where sums and products of them go beyond what an int holds.
func ends() []int {
	out := []int{math.MinInt, math.MinInt + 1, math.MinInt + 64, math.MinInt / 2, math.MinInt/2 - 1, math.MinInt / 4, math.MinInt / 64, -api.MaxImage, -64, -2, -1, 0, 1, 2, 3, 63, 64, 65}
	out = append(out, math.MaxInt, math.MaxInt-1, math.MaxInt-63, math.MaxInt-64, math.MaxInt/2, math.MaxInt/2+1, math.MaxInt/4, math.MaxInt/4+1, math.MaxInt/64+1, 1<<58, 1<<48, 1<<32, 1<<31)
	return append(out, api.MaxWindow, api.MaxWindow+1, api.MaxImage, api.MaxImage+1)
}

// heads: one at each edge of each of its numbers, and whether it may be.
func heads() map[api.Head]bool {
	out := map[api.Head]bool{}
	for _, base := range []api.Head{
		{Old: 5, New: 3, OldSum: 1, NewSum: 2, Window: 64, Look: 100},
		{Old: 0, New: 0, Window: 64, Look: 1},
		{Old: 1 << 24, New: 1 << 24, OldSum: 1<<32 - 1, NewSum: 1 << 31, Window: 65536, Look: 32768},
	} {
		out[base] = true
		put := func(h api.Head, may bool) { out[h] = may }
		for _, v := range append(ends(), -1, 0, 1<<24, 1<<24+1) {
			h := base
			h.Old = v
			put(h, v >= 0 && v <= 1<<24)
			h = base
			h.New = v
			put(h, v >= 0 && v <= 1<<24)
		}
		for _, v := range append(ends(), 64, 63, 65536, 65537) {
			h := base
			h.Window = v
			put(h, v >= 64 && v <= 65536)
		}
		for _, v := range append(ends(), 0, 1, 32768, 32769) {
			h := base
			h.Look = v
			put(h, v >= 1 && v <= 32768)
		}
	}
	return out
}

// rolls: numbers that follow no pattern and are the same at each run.
type rolls uint64

// below: a number from 0 on, below n.
func (r *rolls) below(n int) int {
	*r = *r*6364136223846793005 + 1442695040888963407
	return int(uint64(*r>>33) % uint64(n))
}

// of: one of these.
func (r *rolls) of(l ...int) int { return l[r.below(len(l))] }

// data: n bytes, of few kinds or of many, so that they are pressed in all ways.
func (r *rolls) data(n int) []byte {
	kinds := r.of(1, 2, 5, 256)
	out := make([]byte, n)
	for i := range out {
		out[i] = byte(r.below(kinds))
	}
	return out
}

// word: 32 bits.
func (r *rolls) word() uint32 { return uint32(r.below(1<<16))<<16 | uint32(r.below(1<<16)) }

// head: a header that may be, of few windows.
func (r *rolls) head() api.Head {
	h := api.Head{Old: r.below(300), New: r.below(300), OldSum: r.word(), NewSum: r.word(), Window: 64 + r.below(40), Look: 1 + r.below(300)}
	if r.below(4) == 0 {
		h.Old = r.of(0, 127, 128, 1<<14, 1<<24)
	}
	if r.below(4) == 0 {
		h.New = h.Window*r.below(4) + r.below(2)
	}
	if r.below(4) == 0 {
		h.Window = r.of(64, 127, 128, 65535, 65536)
	}
	if r.below(4) == 0 {
		h.Look = r.of(1, 2, 127, 128, 32767, 32768)
	}
	return h
}

// options: some that may be.
func (r *rolls) options(look int) api.Press {
	return api.Press{Look: api.Look{Window: look, Chain: r.of(0, 0, 1, 9, api.MaxChain), Lazy: r.below(2) == 0}, Block: r.of(1, 9, 50, 50, api.MaxBlock, api.MaxBlock)}
}

// window: one of so many bytes that may be over old bytes, in steps of at most so many.
func (r *rolls) window(old, size, most int) api.Window {
	out := api.Window{Pos: r.below(old + 1)}
	place := out.Pos
	for size > 0 {
		s := api.Step{Add: r.below(min(old-place, size, most) + 1)}
		s.Copy = r.below(2) * r.below(min(size-s.Add, most)+1)
		if s.Add+s.Copy == 0 {
			s.Copy = 1
		}
		size -= s.Add + s.Copy
		place += s.Add
		if to := r.below(old + 1); size > 0 && r.below(3) > 0 {
			s.Seek = to - place
			place = to
		}
		out.Edit.Steps = append(out.Edit.Steps, s)
		out.Edit.Diff = append(out.Edit.Diff, r.data(s.Add)...)
		out.Edit.Extra = append(out.Edit.Extra, r.data(s.Copy)...)
	}
	return out
}

// windows: those of a header; some have no Diff, some no Extra.
func (r *rolls) windows(h api.Head) []api.Window {
	var out []api.Window
	for _, n := range sizesAll(h) {
		w := r.window(h.Old, n, 1+r.below(40))
		switch r.below(4) {
		case 0:
			w = api.Window{Pos: r.below(h.Old + 1), Edit: api.Edit{Steps: steps(0, n, 0), Extra: r.data(n)}}
		case 1:
			if n <= h.Old {
				w = api.Window{Pos: r.below(h.Old - n + 1), Edit: api.Edit{Steps: steps(n, 0, 0), Diff: r.data(n)}}
			}
		}
		out = append(out, w)
	}
	return out
}

// bend: a window with something that is a little otherwise, which mostly may not be.
func (r *rolls) bend(w api.Window) api.Window {
	w = clonedWindow(w)
	e := &w.Edit
	s := &e.Steps[r.below(len(e.Steps))]
	less := func(l []byte) []byte { return l[:max(0, len(l)-1)] }
	switch r.below(10) {
	case 0:
		e.Diff = append(e.Diff, 7)
	case 1:
		e.Extra = append(e.Extra, 7)
	case 2:
		e.Diff = less(e.Diff)
	case 3:
		e.Extra = less(e.Extra)
	case 4:
		s.Add += r.below(3) - 1
	case 5:
		s.Copy += r.below(3) - 1
	case 6:
		s.Seek += r.below(5) - 2
	case 7:
		w.Pos += r.below(5) - 2
	case 8:
		e.Steps = slices.Insert(e.Steps, r.below(len(e.Steps)+1), api.Step{Seek: r.below(3) - 1})
	case 9:
		e.Steps = e.Steps[:len(e.Steps)-1]
	}
	return w
}

// bent: bytes with something that is a little otherwise.
func (r *rolls) bent(b []byte) []byte {
	b = slices.Clone(b)
	if len(b) == 0 {
		return b
	}
	at := r.below(len(b))
	switch r.below(5) {
	case 0:
		b[at] ^= 1 << r.below(8)
	case 1:
		b[at] = byte(r.below(256))
	case 2:
		b = slices.Delete(b, at, at+1)
	case 3:
		b = slices.Insert(b, at, byte(r.below(256)))
	case 4:
		b = slices.Insert(b, at, b[at]|128)
	}
	return b
}
