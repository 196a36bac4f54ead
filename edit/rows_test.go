package edit_test

import (
	"slices"

	"sapper/api"
)

// steps: of three numbers each.
func steps(l ...int) []api.Step {
	var out []api.Step
	for part := range slices.Chunk(l, 3) {
		out = append(out, api.Step{Add: part[0], Copy: part[1], Seek: part[2]})
	}
	return out
}

// rolls: numbers that follow no pattern and are the same at each run.
type rolls uint64

// below: a number from 0 on, below n.
func (r *rolls) below(n int) int {
	*r = *r*6364136223846793005 + 1442695040888963407
	return int(uint64(*r>>33) % uint64(n))
}

// data: n bytes, of which some are 0 and 255.
func (r *rolls) data(n int) []byte {
	out := make([]byte, n)
	for i := range out {
		switch r.below(4) {
		case 0:
		case 1:
			out[i] = 255
		default:
			out[i] = byte(r.below(256))
		}
	}
	return out
}

// full: an edit of these steps, which may be, with drawn bytes.
func (r *rolls) full(l []api.Step) api.Edit {
	out := api.Edit{Steps: l}
	for _, s := range l {
		out.Diff = append(out.Diff, r.data(s.Add)...)
		out.Extra = append(out.Extra, r.data(s.Copy)...)
	}
	return out
}

// fit: an edit of some steps over old bytes, which reads nothing outside of them. Some steps make nothing, some go on where the one ahead has ended, some Seeks lead outside, where nothing is read.
func (r *rolls) fit(old, count int) api.Edit {
	var l []api.Step
	place, to := 0, 0 // to: where adding goes on, if it does
	for range count {
		if r.below(3) == 0 { // nothing is made on the way
			far := r.below(3*old+9) - old - 4
			l = append(l, api.Step{Seek: far - place})
			place = far
		}
		if r.below(2) == 0 {
			to = r.below(old + 1)
		}
		l = append(l, api.Step{Copy: r.below(2) * r.below(4), Seek: to - place})
		add := r.below(min(old-to, 6) + 1)
		l = append(l, api.Step{Add: add, Copy: r.below(2) * r.below(5)})
		to += add
		place = to
	}
	if r.below(2) == 0 {
		l = append(l, api.Step{Seek: r.below(99) - 50})
	}
	return r.full(l)
}

// any: an edit of drawn steps, which mostly may be, with bytes that are mostly as many as they say.
func (r *rolls) any(old int) api.Edit {
	out := r.fit(old, r.below(4))
	for range r.below(3) {
		s := api.Step{Add: r.below(4), Copy: r.below(3), Seek: r.below(2*old+5) - old - 2}
		at := r.below(len(out.Steps) + 1)
		out.Steps = slices.Insert(out.Steps, at, s)
		out.Diff = append(out.Diff, r.data(s.Add)...)
		out.Extra = append(out.Extra, r.data(s.Copy)...)
	}
	switch r.below(12) {
	case 0:
		out.Diff = append(out.Diff, 7)
	case 1:
		out.Extra = append(out.Extra, 7)
	case 2:
		out.Diff = out.Diff[:len(out.Diff)-min(1, len(out.Diff))]
	case 3:
		out.Extra = out.Extra[:len(out.Extra)-min(1, len(out.Extra))]
	case 4:
		wrong := steps(-1, 0, 0, 0, -1, 0, 0, 0, api.MaxImage+1, 0, 0, -api.MaxImage-1, api.MaxImage+1, 0, 0, 0, api.MaxImage+1, 0)
		out.Steps = append(out.Steps, wrong[r.below(len(wrong))])
	case 5:
		out.Steps = append(out.Steps, steps(0, 0, api.MaxImage, 0, 0, api.MaxImage, 0, 1, -api.MaxImage)...)
		out.Extra = append(out.Extra, 9)
	}
	return out
}

// rowsOf: all rows of at most n of these steps.
func rowsOf(n int, l []api.Step) [][]api.Step {
	out := [][]api.Step{nil}
	for from := 0; n > 0; n-- {
		to := len(out)
		for _, row := range out[from:to] {
			for _, s := range l {
				out = append(out, append(slices.Clone(row), s))
			}
		}
		from = to
	}
	return out
}

// box: all steps whose Add and Copy are up to these, and whose Seek is from one number to another.
func box(add, copied, from, to int) []api.Step {
	var out []api.Step
	for a := range add + 1 {
		for c := range copied + 1 {
			for k := from; k <= to; k++ {
				out = append(out, api.Step{Add: a, Copy: c, Seek: k})
			}
		}
	}
	return out
}

// short: all edits of few small steps; the bytes are drawn.
func short() []api.Edit {
	r := rolls(16)
	var out []api.Edit
	for _, l := range slices.Concat(rowsOf(2, box(2, 2, -2, 2)), rowsOf(3, box(1, 1, -1, 1)), rowsOf(3, box(2, 0, -2, 2)), rowsOf(4, box(1, 0, -1, 1))) {
		out = append(out, r.full(l))
	}
	return out
}

// brief: all edits of at most two steps that are smaller still.
func brief() []api.Edit {
	r := rolls(61)
	var out []api.Edit
	for _, l := range rowsOf(2, box(1, 1, -1, 1)) {
		out = append(out, r.full(l))
	}
	return out
}

// bent: an edit, and what becomes of it, if a byte is left out of Diff, or of Extra, or is one too much.
func bent(e api.Edit) []api.Edit {
	out := []api.Edit{e}
	out = append(out, api.Edit{Steps: e.Steps, Diff: append(slices.Clone(e.Diff), 1), Extra: e.Extra})
	out = append(out, api.Edit{Steps: e.Steps, Diff: e.Diff, Extra: append(slices.Clone(e.Extra), 1)})
	if len(e.Diff) > 0 {
		out = append(out, api.Edit{Steps: e.Steps, Diff: e.Diff[1:], Extra: e.Extra})
		out = append(out, api.Edit{Steps: e.Steps, Diff: e.Diff[1:], Extra: append(slices.Clone(e.Extra), 1)})
	}
	if len(e.Extra) > 0 {
		out = append(out, api.Edit{Steps: e.Steps, Diff: e.Diff, Extra: e.Extra[1:]})
		out = append(out, api.Edit{Steps: e.Steps, Diff: append(slices.Clone(e.Diff), 1), Extra: e.Extra[1:]})
	}
	return out
}

// images: small old images.
func images() [][]byte {
	return [][]byte{nil, {}, {0}, {255}, {1, 255}, []byte("abc"), []byte("abcdef"), {0, 0, 0, 0, 255, 255, 128}}
}
