package cutter_test

import (
	"slices"

	"sapper/api"
	"sapper/edit"
)

// The chapter's words, taken literally: lists of all bytes, rows that are sought from the front on, and what may not be is asked for one thing at a time.

// kind: a byte that is ADDED to the place at, or COPIED.
type kind struct {
	added bool
	at    int
	value byte
}

// kindsOf: of all bytes that an edit, whose lists are long enough, makes from a place on.
func kindsOf(place int, e api.Edit) []kind {
	var out []kind
	diff, extra := 0, 0
	for _, s := range e.Steps {
		for range s.Add {
			out = append(out, kind{added: true, at: place, value: e.Diff[diff]})
			place++
			diff++
		}
		for range s.Copy {
			out = append(out, kind{value: e.Extra[extra]})
			extra++
		}
		place += s.Seek
	}
	return out
}

// inside: 0 to old.
func inside(place, old int) bool { return place >= 0 && place <= old }

// partsMayBe: each step's Add and Copy are 0 or more, and not both 0; and, so that they can be summed up, no more than size.
func partsMayBe(l []api.Step, size int) bool {
	for _, s := range l {
		if s.Add < 0 || s.Copy < 0 {
			return false
		}
		if s.Add == 0 && s.Copy == 0 {
			return false
		}
		if s.Add > size || s.Copy > size {
			return false
		}
	}
	return true
}

// checkOf: P17.1.
func checkOf(w api.Window, old, size int) api.Errno {
	if size < 1 || size > api.MaxWindow || old < 0 || old > api.MaxImage {
		return api.ErrCutWindow
	}
	if !partsMayBe(w.Edit.Steps, size) {
		return api.ErrCutWindow
	}
	adds, copies := 0, 0
	for _, s := range w.Edit.Steps {
		adds += s.Add
		copies += s.Copy
	}
	if adds != len(w.Edit.Diff) || copies != len(w.Edit.Extra) || adds+copies != size {
		return api.ErrCutWindow
	}
	place := w.Pos
	if !inside(place, old) {
		return api.ErrCutWindow
	}
	for _, s := range w.Edit.Steps {
		place += s.Add
		if !inside(place, old) {
			return api.ErrCutWindow
		}
		if s.Seek < -api.MaxImage || s.Seek > api.MaxImage { // from inside it leads outside
			return api.ErrCutWindow
		}
		place += s.Seek
		if !inside(place, old) {
			return api.ErrCutWindow
		}
	}
	if w.Edit.Steps[len(w.Edit.Steps)-1].Seek != 0 {
		return api.ErrCutWindow
	}
	return api.OK
}

// applyOf: P17.1.
func applyOf(old []byte, w api.Window, size int) ([]byte, api.Errno) {
	if err := checkOf(w, len(old), size); err != api.OK {
		return nil, err
	}
	var out []byte
	for _, k := range kindsOf(w.Pos, w.Edit) {
		if k.added {
			out = append(out, byte((int(old[k.at])+int(k.value))%256))
		} else {
			out = append(out, k.value)
		}
	}
	return out, api.OK
}

// windowOf: the window that has these bytes.
func windowOf(l []kind) api.Window {
	var out api.Window
	if first := slices.IndexFunc(l, func(k kind) bool { return k.added }); first >= 0 {
		out.Pos = l[first].at
	}
	var begins []int // of each step: where its adding begins
	for at := 0; at < len(l); {
		var s api.Step
		begins = append(begins, l[at].at)
		for at < len(l) && l[at].added && l[at].at == begins[len(begins)-1]+s.Add {
			out.Edit.Diff = append(out.Edit.Diff, l[at].value)
			s.Add++
			at++
		}
		for at < len(l) && !l[at].added {
			out.Edit.Extra = append(out.Edit.Extra, l[at].value)
			s.Copy++
			at++
		}
		out.Edit.Steps = append(out.Edit.Steps, s)
	}
	for i := range begins[:max(0, len(begins)-1)] {
		if s := &out.Edit.Steps[i]; s.Add > 0 {
			s.Seek = begins[i+1] - (begins[i] + s.Add)
		}
	}
	return out
}

// cutOf: P17.2.
func cutOf(e api.Edit, window int) ([]api.Window, api.Errno) {
	if window < api.MinWindow || window > api.MaxWindow {
		return nil, api.ErrCutSize
	}
	if err := edit.Check(e, api.MaxImage, len(e.Diff)+len(e.Extra)); err != api.OK {
		return nil, err
	}
	var out []api.Window
	for l := range slices.Chunk(kindsOf(0, e), window) {
		out = append(out, windowOf(l))
	}
	return out, api.OK
}

// joinOf: P17.3.
func joinOf(window int, l []api.Window) (api.Edit, api.Errno) {
	if window < api.MinWindow || window > api.MaxWindow {
		return api.Edit{}, api.ErrCutSize
	}
	for i, w := range l {
		size := len(w.Edit.Diff) + len(w.Edit.Extra)
		if i < len(l)-1 && size != window {
			return api.Edit{}, api.ErrCutWindow
		}
		if size < 1 || size > window || checkOf(w, api.MaxImage, size) != api.OK {
			return api.Edit{}, api.ErrCutWindow
		}
	}
	var out api.Edit
	place := 0
	for _, w := range l {
		if seek := w.Pos - place; seek != 0 {
			out.Steps = append(out.Steps, api.Step{Seek: seek})
			place += seek
		}
		for _, s := range w.Edit.Steps {
			out.Steps = append(out.Steps, s)
			place += s.Add
			place += s.Seek
		}
		out.Diff = append(out.Diff, w.Edit.Diff...)
		out.Extra = append(out.Extra, w.Edit.Extra...)
	}
	return out, api.OK
}

// shortest: a number's shortest form, by chapter 1.
func shortest(v int) []byte {
	var out []byte
	for v >= 128 {
		out = append(out, byte(128+v%128))
		v /= 128
	}
	return append(out, byte(v))
}

// zig: by chapter 1.
func zig(v int) int {
	if v >= 0 {
		return 2 * v
	}
	return -2*v - 1
}

// controlOf: P17.4.
func controlOf(l []api.Step) ([]byte, api.Errno) {
	var out []byte
	for _, s := range l {
		if s.Add < 0 || s.Add > api.MaxWindow || s.Copy < 0 || s.Copy > api.MaxWindow {
			return nil, api.ErrCutWindow
		}
		if s.Seek < -api.MaxImage || s.Seek > api.MaxImage {
			return nil, api.ErrCutWindow
		}
		out = slices.Concat(out, shortest(s.Add), shortest(s.Copy), shortest(zig(s.Seek)))
	}
	return out, api.OK
}

// number: the one that b begins with, by chapter 1, its bytes, and the error; many: it is far above all that Control writes.
func number(b []byte) (v, n int, many bool, err api.Errno) {
	for i := 0; ; i++ {
		switch {
		case i == len(b):
			return 0, 0, false, api.ErrNumShort
		case i == 9 && b[i] > 1:
			return 0, 0, false, api.ErrNumLong
		case i > 0 && b[i] == 0:
			return 0, 0, false, api.ErrNumForm
		}
		if i < 5 {
			v += int(b[i]%128) << (7 * i)
		} else {
			many = many || b[i]%128 > 0
		}
		if b[i] < 128 {
			return v, i + 1, many, api.OK
		}
	}
}

// uncontrolOf: P17.4.
func uncontrolOf(b []byte) ([]api.Step, api.Errno) {
	var all []int
	for len(b) > 0 || len(all)%3 > 0 {
		v, n, many, err := number(b)
		if err != api.OK {
			return nil, err
		}
		most := api.MaxWindow
		if len(all)%3 == 2 {
			most = 2 * api.MaxImage
		}
		if many || v > most {
			return nil, api.ErrCutWindow
		}
		all = append(all, v)
		b = b[n:]
	}
	for i := 2; i < len(all); i += 3 {
		if all[i]%2 == 0 {
			all[i] /= 2
		} else {
			all[i] = -(all[i] + 1) / 2
		}
	}
	return steps(all...), api.OK
}

// leastSteps: how many steps a window must have at the least, for its bytes to be these: all ways to cut them into steps are tried.
func leastSteps(l []kind) int {
	least := make([]int, len(l)+1) // of the bytes from a place on
	for at := len(l) - 1; at >= 0; at-- {
		least[at] = len(l) + 1
		for add := 0; ; add++ {
			for copied := 0; ; copied++ {
				if add+copied > 0 {
					least[at] = min(least[at], 1+least[at+add+copied])
				}
				if next := at + add + copied; next == len(l) || l[next].added {
					break
				}
			}
			if next := at + add; next == len(l) || !l[next].added || l[next].at != l[at].at+add {
				break
			}
		}
	}
	return least[0]
}
