package edit_test

import (
	"bytes"

	"sapper/api"
	"sapper/edit"
)

// The chapter's words, taken literally: a place that goes on byte by byte, lists of all origins, and what is sought is sought from the front on.

// kind: FROM at with value; or OWN value.
type kind struct {
	own   bool
	at    int
	value byte
}

// stepMayBe: a step may be.
func stepMayBe(s api.Step) bool {
	if s.Add < 0 || s.Add > api.MaxImage {
		return false
	}
	if s.Copy < 0 || s.Copy > api.MaxImage {
		return false
	}
	return s.Seek >= -api.MaxImage && s.Seek <= api.MaxImage
}

// allMayBe: do all steps?
func allMayBe(steps []api.Step) bool {
	for _, s := range steps {
		if !stepMayBe(s) {
			return false
		}
	}
	return true
}

// holdsTogether: an edit, whose steps may be, holds together.
func holdsTogether(e api.Edit) bool {
	adds, copies := 0, 0
	for _, s := range e.Steps {
		adds += s.Add
		copies += s.Copy
	}
	if adds > api.MaxImage || adds != len(e.Diff) {
		return false
	}
	if copies > api.MaxImage || copies != len(e.Extra) {
		return false
	}
	return adds+copies <= api.MaxImage
}

// byItself: the errors that an edit has by itself.
func byItself(e api.Edit) api.Errno {
	if !allMayBe(e.Steps) {
		return api.ErrEditStep
	}
	if !holdsTogether(e) {
		return api.ErrEditSize
	}
	return api.OK
}

// kindsOf: the origins of all bytes that come.
func kindsOf(e api.Edit) []kind {
	var out []kind
	place, diff, extra := 0, 0, 0
	for _, s := range e.Steps {
		for range s.Add {
			out = append(out, kind{at: place, value: e.Diff[diff]})
			place++
			diff++
		}
		for range s.Copy {
			out = append(out, kind{own: true, value: e.Extra[extra]})
			extra++
		}
		place += s.Seek
	}
	return out
}

// readsOutside: is a byte wanted at a place that an old image of so many bytes does not have?
func readsOutside(e api.Edit, old int) bool {
	for _, k := range kindsOf(e) {
		if !k.own && (k.at < 0 || k.at >= old) {
			return true
		}
	}
	return false
}

// sizeOf: P16.1.
func sizeOf(e api.Edit) (int, api.Errno) {
	if err := byItself(e); err != api.OK {
		return 0, err
	}
	return len(kindsOf(e)), api.OK
}

// checkOf: P16.1.
func checkOf(e api.Edit, old, size int) api.Errno {
	if old < 0 || old > api.MaxImage || size < 0 || size > api.MaxImage {
		return api.ErrArg
	}
	if err := byItself(e); err != api.OK {
		return err
	}
	if len(kindsOf(e)) != size {
		return api.ErrEditSize
	}
	if readsOutside(e, old) {
		return api.ErrEditRead
	}
	return api.OK
}

// applyOf: P16.2.
func applyOf(old []byte, e api.Edit) ([]byte, api.Errno) {
	if len(old) > api.MaxImage {
		return nil, api.ErrArg
	}
	if err := byItself(e); err != api.OK {
		return nil, err
	}
	if readsOutside(e, len(old)) {
		return nil, api.ErrEditRead
	}
	var out []byte
	for _, k := range kindsOf(e) {
		if k.own {
			out = append(out, k.value)
		} else {
			out = append(out, byte((int(old[k.at])+int(k.value))%256))
		}
	}
	return out, api.OK
}

// makeOf: P16.3.
func makeOf(old, next []byte, steps []api.Step) (api.Edit, api.Errno) {
	if len(old) > api.MaxImage || len(next) > api.MaxImage {
		return api.Edit{}, api.ErrArg
	}
	if !allMayBe(steps) {
		return api.Edit{}, api.ErrEditStep
	}
	total := 0
	for _, s := range steps {
		total += s.Add + s.Copy
	}
	if total != len(next) {
		return api.Edit{}, api.ErrEditSize
	}
	out := api.Edit{Steps: steps}
	place, at := 0, 0
	for _, s := range steps {
		for range s.Add {
			if place < 0 || place >= len(old) {
				return api.Edit{}, api.ErrEditRead
			}
			out.Diff = append(out.Diff, byte((256+int(next[at])-int(old[place]))%256))
			place++
			at++
		}
		for range s.Copy {
			out.Extra = append(out.Extra, next[at])
			at++
		}
		place += s.Seek
	}
	return out, api.OK
}

// fewestOf: the edit of P16.4 whose bytes have these origins.
func fewestOf(all []kind) (api.Edit, api.Errno) {
	var out api.Edit
	place, at := 0, 0
	for at < len(all) {
		var s api.Step
		for at < len(all) && !all[at].own && all[at].at == place {
			out.Diff = append(out.Diff, all[at].value)
			s.Add++
			place++
			at++
		}
		for at < len(all) && all[at].own {
			out.Extra = append(out.Extra, all[at].value)
			s.Copy++
			at++
		}
		if at < len(all) {
			s.Seek = all[at].at - place
			place = all[at].at
		}
		out.Steps = append(out.Steps, s)
	}
	if !allMayBe(out.Steps) {
		return api.Edit{}, api.ErrEditStep
	}
	return out, api.OK
}

// normalOf: P16.4.
func normalOf(e api.Edit) (api.Edit, api.Errno) {
	if err := byItself(e); err != api.OK {
		return api.Edit{}, err
	}
	return fewestOf(kindsOf(e))
}

// composeOf: P16.5.
func composeOf(a, b api.Edit) (api.Edit, api.Errno) {
	if err := byItself(a); err != api.OK {
		return api.Edit{}, err
	}
	if err := byItself(b); err != api.OK {
		return api.Edit{}, err
	}
	ahead := kindsOf(a)
	if readsOutside(b, len(ahead)) {
		return api.Edit{}, api.ErrEditFit
	}
	var all []kind
	for _, k := range kindsOf(b) {
		switch {
		case k.own:
			all = append(all, k)
		case ahead[k.at].own:
			all = append(all, kind{own: true, value: byte((int(ahead[k.at].value) + int(k.value)) % 256)})
		default:
			all = append(all, kind{at: ahead[k.at].at, value: byte((int(ahead[k.at].value) + int(k.value)) % 256)})
		}
	}
	return fewestOf(all)
}

// alikeOf: P16.6.
func alikeOf(a, b api.Edit) bool {
	if len(a.Steps) != len(b.Steps) || !bytes.Equal(a.Diff, b.Diff) || !bytes.Equal(a.Extra, b.Extra) {
		return false
	}
	for i := range a.Steps {
		if a.Steps[i].Add != b.Steps[i].Add || a.Steps[i].Copy != b.Steps[i].Copy || a.Steps[i].Seek != b.Steps[i].Seek {
			return false
		}
	}
	return true
}

// reverseOf: P16.11.
func reverseOf(old []byte, e api.Edit) (api.Edit, api.Errno) {
	if _, err := applyOf(old, e); err != api.OK {
		return api.Edit{}, err
	}
	made := kindsOf(e)
	var all []kind
	for i, v := range old {
		back := kind{own: true, value: v}
		for j, k := range made {
			if !k.own && k.at == i {
				back = kind{at: j, value: byte((256 - int(k.value)) % 256)}
				break
			}
		}
		all = append(all, back)
	}
	return fewestOf(all)
}

// tellOf: P16.13.
func tellOf(e api.Edit) (edit.Stat, api.Errno) {
	if err := byItself(e); err != api.OK {
		return edit.Stat{}, err
	}
	out := edit.Stat{Steps: len(e.Steps)}
	ahead := false
	for _, k := range kindsOf(e) {
		if k.own {
			out.Copied++
			continue
		}
		out.Added++
		if k.value == 0 {
			out.Same++
		}
		if k.at < 0 {
			ahead = true
		}
	}
	for _, s := range e.Steps {
		if s.Seek < 0 {
			out.Jump -= s.Seek
		} else {
			out.Jump += s.Seek
		}
	}
	for !ahead && readsOutside(e, out.Reach) {
		out.Reach++
	}
	return out, api.OK
}

// joinOf: P16.14.
func joinOf(l []api.Edit) (api.Edit, api.Errno) {
	var all []kind
	for _, e := range l {
		if err := byItself(e); err != api.OK {
			return api.Edit{}, err
		}
		all = append(all, kindsOf(e)...)
	}
	if len(all) > api.MaxImage {
		return api.Edit{}, api.ErrEditSize
	}
	return fewestOf(all)
}

// leastSteps: how many steps an edit must have at the least, for its bytes to have these origins: all ways to cut the bytes into steps are tried, and all places that a Seek can be of use for. (A step that makes nothing is of use as the first one alone: another one's Seek could lead there, too.)
func leastSteps(all []kind) int {
	known := map[[2]int]int{}
	var from func(at, place int) int
	from = func(at, place int) int {
		if at == len(all) {
			return 0
		}
		if n, there := known[[2]int{at, place}]; there {
			return n
		}
		best := 2*len(all) + 2
		for add := range addable(all[at:], place) + 1 {
			for copied := range copyable(all[at+add:]) + 1 {
				if add+copied == 0 {
					continue
				}
				for _, to := range placesOf(all) {
					best = min(best, 1+from(at+add+copied, to))
				}
			}
		}
		known[[2]int{at, place}] = best
		return best
	}
	best := from(0, 0)
	for _, to := range placesOf(all) {
		best = min(best, 1+from(0, to))
	}
	return best
}

// addable: how many of these, from the first on, are FROM a place and those behind it.
func addable(l []kind, place int) int {
	n := 0
	for n < len(l) && !l[n].own && l[n].at == place+n {
		n++
	}
	return n
}

// copyable: how many, from the first on, are OWN.
func copyable(l []kind) int {
	n := 0
	for n < len(l) && l[n].own {
		n++
	}
	return n
}

// placesOf: all places that one of these is FROM, and 0.
func placesOf(all []kind) []int {
	out := []int{0}
	for _, k := range all {
		if !k.own {
			out = append(out, k.at)
		}
	}
	return out
}
