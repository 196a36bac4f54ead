package edit

import (
	"iter"
	"slices"

	"sapper/api"
)

// origin is where a byte comes from: a place of the old image, with a value added; or, if it is the edit's own, the value alone.
type origin struct {
	at    int
	value byte
	own   bool
}

// origins tells where the bytes that an edit makes come from, one by one.
func origins(e api.Edit) iter.Seq[origin] {
	return func(yield func(origin) bool) {
		diff, extra := e.Diff, e.Extra
		for place, s := range walk(e.Steps) {
			for i, d := range diff[:s.Add] {
				if !yield(origin{at: place + i, value: d}) {
					return
				}
			}
			for _, v := range extra[:s.Copy] {
				if !yield(origin{value: v, own: true}) {
					return
				}
			}
			diff, extra = diff[s.Add:], extra[s.Copy:]
		}
	}
}

// listed: the origins of an edit that makes so many bytes, by their places.
func listed(e api.Edit, size int) []origin {
	return slices.AppendSeq(make([]origin, 0, size), origins(e))
}

// through tells the origins of what an edit makes of bytes that have origins themselves.
func through(ahead []origin, e api.Edit) iter.Seq[origin] {
	return func(yield func(origin) bool) {
		for o := range origins(e) {
			if !o.own {
				added := o.value
				o = ahead[o.at]
				o.value += added
			}
			if !yield(o) {
				return
			}
		}
	}
}

// turned: of each byte of old the origin in what an edit makes of it; its own, where no byte comes of it.
func turned(old []byte, e api.Edit) []origin {
	out := make([]origin, len(old))
	for i, v := range old {
		out[i] = origin{value: v, own: true}
	}
	j := 0
	for o := range origins(e) {
		if !o.own && out[o.at].own {
			out[o.at] = origin{at: j, value: -o.value}
		}
		j++
	}
	return out
}

// inRow tells the origins of several edits, one edit behind the other.
func inRow(l []api.Edit) iter.Seq[origin] {
	return func(yield func(origin) bool) {
		for _, e := range l {
			for o := range origins(e) {
				if !yield(o) {
					return
				}
			}
		}
	}
}
