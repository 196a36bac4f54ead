package maker_test

import (
	"hash/crc32"
	"slices"

	"sapper/api"
	"sapper/frame"
	"sapper/num"
	"sapper/press"
	"sapper/scan"
	"sapper/suffix"
)

// The chapter's words, taken literally: each byte of a new image is held by where it comes from, all bytes at once; windows are cut off these, and what may not be is asked for one thing at a time.

// origin: where a byte comes from: a place of the old image, with a value added; or it is the patch's own.
type origin struct {
	at    int
	value byte
	own   bool
}

// sumOf: chapter 2.
func sumOf(b []byte) uint32 { return crc32.ChecksumIEEE(b) }

// optionsOf: P20.1, with what chapters 7 and 10 say of Press.
func optionsOf(o api.Options) api.Errno {
	if o.Window < 64 || o.Window > 65536 {
		return api.ErrMakeOption
	}
	if o.Press.Look.Window < 1 || o.Press.Look.Window > 32768 {
		return api.ErrMakeOption
	}
	if o.Press.Look.Chain < 0 || o.Press.Look.Chain > 4096 {
		return api.ErrMakeOption
	}
	if o.Press.Block < 1 || o.Press.Block > 65536 {
		return api.ErrMakeOption
	}
	return api.OK
}

// manyOf: the first error of P20.2.
func manyOf(old, next []byte) api.Errno {
	if len(old) > 1<<24 {
		return api.ErrMakeMany
	}
	if len(next) > 1<<24 {
		return api.ErrMakeMany
	}
	return api.OK
}

// scannedOf: where the bytes of next come from, by chapters 15 and 16.
func scannedOf(old, next []byte) []origin {
	index, _ := suffix.New(old)
	steps, _ := scan.Steps(index, next)
	var out []origin
	place := 0
	for _, s := range steps {
		for range s.Add {
			out = append(out, origin{at: place, value: next[len(out)] - old[place]})
			place++
		}
		for range s.Copy {
			out = append(out, origin{value: next[len(out)], own: true})
		}
		place += s.Seek
	}
	return out
}

// windowOf: the window of these bytes, by P17.2.
func windowOf(l []origin) api.Window {
	var w api.Window
	for _, o := range slices.Backward(l) {
		if !o.own {
			w.Pos = o.at
		}
	}
	place := w.Pos
	for len(l) > 0 {
		var s api.Step
		for len(l) > 0 && !l[0].own && l[0].at == place {
			w.Edit.Diff = append(w.Edit.Diff, l[0].value)
			s.Add, place, l = s.Add+1, place+1, l[1:]
		}
		for len(l) > 0 && l[0].own {
			w.Edit.Extra = append(w.Edit.Extra, l[0].value)
			s.Copy, l = s.Copy+1, l[1:]
		}
		if len(l) > 0 {
			s.Seek, place = l[0].at-place, l[0].at
		}
		w.Edit.Steps = append(w.Edit.Steps, s)
	}
	return w
}

// windowsOf: all of them, of so many bytes each.
func windowsOf(l []origin, size int) []api.Window {
	var out []api.Window
	for len(l) > size {
		out = append(out, windowOf(l[:size]))
		l = l[size:]
	}
	if len(l) > 0 {
		out = append(out, windowOf(l))
	}
	return out
}

// originsOf: where the bytes that windows make come from.
func originsOf(windows []api.Window) []origin {
	var out []origin
	for _, w := range windows {
		place, diff, extra := w.Pos, w.Edit.Diff, w.Edit.Extra
		for _, s := range w.Edit.Steps {
			for range s.Add {
				out = append(out, origin{at: place, value: diff[0]})
				place, diff = place+1, diff[1:]
			}
			for range s.Copy {
				out = append(out, origin{value: extra[0], own: true})
				extra = extra[1:]
			}
			place += s.Seek
		}
	}
	return out
}

// bytesOf: what comes of these origins.
func bytesOf(old []byte, l []origin) []byte {
	var out []byte
	for _, o := range l {
		if o.own {
			out = append(out, o.value)
		} else {
			out = append(out, old[o.at]+o.value)
		}
	}
	return out
}

// composedOf: P16.5's origins: first a, then b.
func composedOf(a, b []origin) []origin {
	var out []origin
	for _, o := range b {
		if !o.own {
			from := a[o.at]
			o = origin{at: from.at, value: from.value + o.value, own: from.own}
		}
		out = append(out, o)
	}
	return out
}

// reversedOf: P16.11's origins: of each byte of old, in what the origins make of it.
func reversedOf(old []byte, l []origin) []origin {
	var out []origin
	for i, v := range old {
		one := origin{value: v, own: true}
		for j, o := range slices.Backward(l) {
			if !o.own && o.at == i {
				one = origin{at: j, value: -o.value}
			}
		}
		out = append(out, one)
	}
	return out
}

// four: bytes, the least first.
func four(v uint32) []byte {
	return []byte{byte(v % 256), byte(v / 256 % 256), byte(v / 65536 % 256), byte(v / 16777216)}
}

// sealed: parts, one behind the other, and their sum.
func sealed(parts ...[]byte) []byte {
	all := slices.Concat(parts...)
	return append(all, four(sumOf(all))...)
}

// headBytes: a header's bytes, by chapter 18.
func headBytes(h api.Head) []byte {
	return sealed([]byte{'S', 'A', 'P', 'R', 1}, numbers(h.Old, h.New, h.Window, h.Look), four(h.OldSum), four(h.NewSum))
}

// numbers: their shortest forms.
func numbers(l ...int) []byte {
	var out []byte
	for _, v := range l {
		out = append(out, num.Encode(uint64(v))...)
	}
	return out
}

// windowBytes: a window's bytes, by chapter 18, whether it may be or not.
func windowBytes(o api.Press, w api.Window) []byte {
	var control []byte
	for _, s := range w.Edit.Steps {
		control = append(control, numbers(s.Add, s.Copy, int(num.Zig(s.Seek)))...)
	}
	sizes, packed, streams := numbers(w.Pos), []byte(nil), []byte(nil)
	for _, raw := range [][]byte{control, w.Edit.Diff, w.Edit.Extra} {
		var b []byte
		if len(raw) > 0 {
			b, _ = press.Press(raw, o)
		}
		sizes, packed, streams = append(sizes, numbers(len(raw))...), append(packed, numbers(len(b))...), append(streams, b...)
	}
	return slices.Concat(sizes, packed, streams)
}

// patchOf: a patch's bytes, by chapter 18, whether its windows may be or not.
func patchOf(h api.Head, o api.Press, windows ...api.Window) []byte {
	parts := [][]byte{headBytes(h)}
	for _, w := range windows {
		parts = append(parts, windowBytes(o, w))
	}
	return sealed(parts...)
}

// planOf: P20.2.
func planOf(old, next []byte, o api.Options) (api.Head, []api.Window, api.Errno) {
	if err := manyOf(old, next); err != api.OK {
		return api.Head{}, nil, err
	}
	if err := optionsOf(o); err != api.OK {
		return api.Head{}, nil, err
	}
	h := api.Head{Old: len(old), New: len(next), OldSum: sumOf(old), NewSum: sumOf(next), Window: o.Window, Look: o.Press.Look.Window}
	return h, windowsOf(scannedOf(old, next), o.Window), api.OK
}

// generateOf: P20.2.
func generateOf(old, next []byte, o api.Options) ([]byte, api.Errno) {
	h, l, err := planOf(old, next, o)
	if err != api.OK {
		return nil, err
	}
	return patchOf(h, o.Press, l...), api.OK
}

// leaves: is one of a window's places outside of so many bytes, its Pos, or one behind an Add or a Seek?
func leaves(w api.Window, old int) bool {
	places := []int{w.Pos}
	for _, s := range w.Edit.Steps {
		places = append(places, places[len(places)-1]+s.Add)
		places = append(places, places[len(places)-1]+s.Seek)
	}
	return slices.ContainsFunc(places, func(at int) bool { return at < 0 || at > old })
}

// meaningOf: P20.3.
func meaningOf(patch, old []byte) ([]byte, api.Errno) {
	h, l, err := frame.Decode(patch)
	if err != api.OK {
		return nil, err
	}
	if len(old) != h.Old {
		return nil, api.ErrMakeOld
	}
	if sumOf(old) != h.OldSum {
		return nil, api.ErrMakeOld
	}
	for _, w := range l {
		if leaves(w, h.Old) {
			return nil, api.ErrMakeRead
		}
	}
	b := bytesOf(old, originsOf(l))
	if sumOf(b) != h.NewSum {
		return nil, api.ErrMakeSum
	}
	return b, api.OK
}

// mergeOf: P20.4.
func mergeOf(p, q []byte, o api.Options) ([]byte, api.Errno) {
	ph, pl, err := frame.Decode(p)
	if err != api.OK {
		return nil, err
	}
	qh, ql, err := frame.Decode(q)
	if err != api.OK {
		return nil, err
	}
	if qh.Old != ph.New {
		return nil, api.ErrMakeFit
	}
	if qh.OldSum != ph.NewSum {
		return nil, api.ErrMakeFit
	}
	for _, w := range pl {
		if leaves(w, ph.Old) {
			return nil, api.ErrMakeRead
		}
	}
	for _, w := range ql {
		if leaves(w, qh.Old) {
			return nil, api.ErrMakeRead
		}
	}
	if err := optionsOf(o); err != api.OK {
		return nil, err
	}
	h := api.Head{Old: ph.Old, New: qh.New, OldSum: ph.OldSum, NewSum: qh.NewSum, Window: o.Window, Look: o.Press.Look.Window}
	return patchOf(h, o.Press, windowsOf(composedOf(originsOf(pl), originsOf(ql)), o.Window)...), api.OK
}

// undoOf: P20.9.
func undoOf(patch, old []byte, o api.Options) ([]byte, api.Errno) {
	if _, err := meaningOf(patch, old); err != api.OK {
		return nil, err
	}
	if err := optionsOf(o); err != api.OK {
		return nil, err
	}
	h, l, _ := frame.Decode(patch)
	back := api.Head{Old: h.New, New: h.Old, OldSum: h.NewSum, NewSum: h.OldSum, Window: o.Window, Look: o.Press.Look.Window}
	return patchOf(back, o.Press, windowsOf(reversedOf(old, originsOf(l)), o.Window)...), api.OK
}

// bestOf: P20.10.
func bestOf(old, next []byte, options ...api.Options) ([]byte, int, api.Errno) {
	if err := manyOf(old, next); err != api.OK {
		return nil, 0, err
	}
	if len(options) == 0 {
		return nil, 0, api.ErrArg
	}
	for _, o := range options {
		if optionsOf(o) != api.OK {
			return nil, 0, api.ErrMakeOption
		}
	}
	best, place := []byte(nil), -1
	for i, o := range options {
		p, _ := generateOf(old, next, o)
		if place < 0 || len(p) < len(best) {
			best, place = p, i
		}
	}
	return best, place, api.OK
}
