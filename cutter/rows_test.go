package cutter_test

import (
	"bytes"
	"math"
	"slices"

	"sapper/api"
)

// steps: of three numbers each.
func steps(l ...int) []api.Step {
	var out []api.Step
	for part := range slices.Chunk(l, 3) {
		out = append(out, api.Step{Add: part[0], Copy: part[1], Seek: part[2]})
	}
	return out
}

// plain: an edit of these steps, which may be; its bytes are told apart by their places.
func plain(l ...int) api.Edit {
	out := api.Edit{Steps: steps(l...)}
	for _, s := range out.Steps {
		for range s.Add {
			out.Diff = append(out.Diff, byte(len(out.Diff)))
		}
		for range s.Copy {
			out.Extra = append(out.Extra, byte(100+len(out.Extra)))
		}
	}
	return out
}

// window: one of such an edit.
func window(pos int, l ...int) api.Window { return api.Window{Pos: pos, Edit: plain(l...)} }

// size: how many bytes it makes.
func size(e api.Edit) int { return len(e.Diff) + len(e.Extra) }

// sameEdit: the same steps and bytes?
func sameEdit(a, b api.Edit) bool {
	return slices.Equal(a.Steps, b.Steps) && bytes.Equal(a.Diff, b.Diff) && bytes.Equal(a.Extra, b.Extra)
}

// sameWindows: the same windows?
func sameWindows(a, b []api.Window) bool {
	return slices.EqualFunc(a, b, func(x, y api.Window) bool { return x.Pos == y.Pos && sameEdit(x.Edit, y.Edit) })
}

// rolls: numbers that follow no pattern and are the same at each run.
type rolls uint64

// below: a number from 0 on, below n.
func (r *rolls) below(n int) int {
	*r = *r*6364136223846793005 + 1442695040888963407
	return int(uint64(*r>>33) % uint64(n))
}

// data: n bytes, of which some are 0 and 255.
func (r *rolls) data(n int) []byte {
	out := make([]byte, n)
	for i := range out {
		switch r.below(4) {
		case 0:
		case 1:
			out[i] = 255
		default:
			out[i] = byte(r.below(256))
		}
	}
	return out
}

// full: an edit of these steps, which may be, with drawn bytes.
func (r *rolls) full(l []api.Step) api.Edit {
	out := api.Edit{Steps: l}
	for _, s := range l {
		out.Diff = append(out.Diff, r.data(s.Add)...)
		out.Extra = append(out.Extra, r.data(s.Copy)...)
	}
	return out
}

// fit: an edit of some steps, each of at most so many bytes, over old bytes, which reads nothing outside of them. Some steps make nothing, some go on where the one ahead has ended, some Seeks lead outside, where nothing is read.
func (r *rolls) fit(old, count, most int) api.Edit {
	var l []api.Step
	place, to := 0, 0 // to: where adding goes on, if it does
	for range count {
		if r.below(3) == 0 { // nothing is made on the way
			far := r.below(3*old+9) - old - 4
			l = append(l, api.Step{Seek: far - place})
			place = far
		}
		if r.below(2) == 0 {
			to = r.below(old + 1)
		}
		l = append(l, api.Step{Copy: r.below(2) * r.below(most+1), Seek: to - place})
		add := r.below(min(old-to, most) + 1)
		l = append(l, api.Step{Add: add, Copy: r.below(2) * r.below(most+1)})
		to += add
		place = to
	}
	if r.below(2) == 0 {
		l = append(l, api.Step{Seek: r.below(99) - 50})
	}
	return r.full(l)
}

// window: one of so many bytes that may be over old bytes, in steps of at most so many.
func (r *rolls) window(old, size, most int) api.Window {
	pos := r.below(old + 1)
	place := pos
	var l []api.Step
	for size > 0 {
		s := api.Step{Add: r.below(min(old-place, size, most) + 1)}
		s.Copy = r.below(2) * r.below(min(size-s.Add, most)+1)
		if s.Add+s.Copy == 0 {
			s.Copy = 1
		}
		size -= s.Add + s.Copy
		place += s.Add
		if to := r.below(old + 1); size > 0 && r.below(3) > 0 {
			s.Seek = to - place
			place = to
		}
		l = append(l, s)
	}
	return api.Window{Pos: pos, Edit: r.full(l)}
}

// bend: a window with something that is a little otherwise, which mostly may not be.
func (r *rolls) bend(w api.Window) api.Window {
	w = clonedWindow(w)
	e := &w.Edit
	s := &api.Step{}
	if len(e.Steps) > 0 {
		s = &e.Steps[r.below(len(e.Steps))]
	}
	less := func(l []byte) []byte { return l[:max(0, len(l)-1)] }
	switch r.below(12) {
	case 0:
		e.Diff = append(e.Diff, 7)
	case 1:
		e.Extra = append(e.Extra, 7)
	case 2:
		e.Diff = less(e.Diff)
	case 3:
		e.Extra = less(e.Extra)
	case 4:
		e.Diff, e.Extra = append(e.Diff, 7), less(e.Extra)
	case 5:
		e.Diff, e.Extra = less(e.Diff), append(e.Extra, 7)
	case 6:
		s.Add += r.below(3) - 1
	case 7:
		s.Copy += r.below(3) - 1
	case 8:
		s.Seek += r.below(5) - 2
	case 9:
		w.Pos += r.below(5) - 2
	case 10:
		e.Steps = slices.Insert(e.Steps, r.below(len(e.Steps)+1), api.Step{Seek: r.below(3) - 1})
	case 11:
		e.Steps = e.Steps[:max(0, len(e.Steps)-1)]
	}
	return w
}

// clonedEdit: an edit as it is now.
func clonedEdit(e api.Edit) api.Edit {
	return api.Edit{Steps: slices.Clone(e.Steps), Diff: slices.Clone(e.Diff), Extra: slices.Clone(e.Extra)}
}

// clonedWindow: a window as it is now.
func clonedWindow(w api.Window) api.Window {
	return api.Window{Pos: w.Pos, Edit: clonedEdit(w.Edit)}
}

// rowsOf: all rows of at most n of these steps.
func rowsOf(n int, l []api.Step) [][]api.Step {
	out := [][]api.Step{nil}
	for from := 0; n > 0; n-- {
		to := len(out)
		for _, row := range out[from:to] {
			for _, s := range l {
				out = append(out, append(slices.Clone(row), s))
			}
		}
		from = to
	}
	return out
}

// box: all steps whose Adds and Copies are from least to these, and whose Seek is from one number to another.
func box(least, add, copied, from, to int) []api.Step {
	var out []api.Step
	for a := least; a <= add; a++ {
		for c := least; c <= copied; c++ {
			for k := from; k <= to; k++ {
				out = append(out, api.Step{Add: a, Copy: c, Seek: k})
			}
		}
	}
	return out
}

// short: all rows of few small steps, those that make nothing among them.
func short() [][]api.Step {
	return slices.Concat(rowsOf(2, box(0, 2, 2, -2, 2)), rowsOf(3, box(0, 1, 1, -1, 1)), rowsOf(4, box(0, 1, 0, -1, 1)))
}

// sizesOf: window sizes at the edges, and whether they may be.
func sizesOf() map[int]bool {
	return map[int]bool{
		api.MinWindow: true, api.MinWindow + 1: true, 1000: true, api.MaxWindow - 1: true, api.MaxWindow: true,
		api.MinWindow - 1: false, 1: false, 0: false, -1: false, -api.MinWindow: false, -api.MaxWindow: false, api.MaxWindow + 1: false, api.MaxImage: false,
		math.MaxInt: false, math.MinInt: false, math.MaxInt - 1: false, math.MinInt + api.MinWindow: false,
	}
}
