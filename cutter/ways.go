package cutter

import (
	"iter"

	"sapper/api"
)

// way is how a byte of the new image comes: a value, added to the old image's byte at a place; or copied.
type way struct {
	place int
	value byte
	added bool
}

// piece is a row of bytes that come in one way: of the diff, added to what stands from a place on; or of the extra, copied.
type piece struct {
	place int
	bytes []byte
	added bool
}

// pieces tells of each of an edit's steps the bytes that it adds, and then those that it copies. It begins at a place in the old image.
func pieces(place int, e api.Edit) iter.Seq[piece] {
	return func(yield func(piece) bool) {
		at, diff, extra := place, e.Diff, e.Extra
		for _, s := range e.Steps {
			if !yield(piece{place: at, bytes: diff[:s.Add], added: true}) {
				return
			}
			if !yield(piece{bytes: extra[:s.Copy]}) {
				return
			}
			at, diff, extra = at+s.Add+s.Seek, diff[s.Add:], extra[s.Copy:]
		}
	}
}

// ways tells how each byte of the pieces comes, one by one.
func ways(all iter.Seq[piece]) iter.Seq[way] {
	return func(yield func(way) bool) {
		for p := range all {
			for i, v := range p.bytes {
				if !yield(way{place: p.place + i, value: v, added: p.added}) {
					return
				}
			}
		}
	}
}

// part is a window that is being made, byte by byte, in as few steps as can be.
type part struct {
	window api.Window
	place  int // in the old image, behind the byte that was last added to
}

// take: one byte more.
func (p *part) take(y way) {
	e := &p.window.Edit
	if !y.added {
		if len(e.Steps) == 0 {
			e.Steps = append(e.Steps, api.Step{})
		}
		e.Steps[len(e.Steps)-1].Copy++
		e.Extra = append(e.Extra, y.value)
		return
	}
	if len(e.Diff) == 0 {
		// The window begins where it first adds: so bytes that are copied ahead of that have no Seek behind them.
		p.window.Pos, p.place = y.place, y.place
	}
	p.lead(y.place)
	e.Steps[len(e.Steps)-1].Add++
	e.Diff = append(e.Diff, y.value)
	p.place++
}

// lead: the last step can add at this place. A step adds ahead of copying, so that behind a copy it must be another one, even where the place is right.
func (p *part) lead(to int) {
	e := &p.window.Edit
	if n := len(e.Steps); n > 0 {
		last := &e.Steps[n-1]
		if last.Copy == 0 && to == p.place {
			return
		}
		last.Seek = to - p.place
	}
	e.Steps = append(e.Steps, api.Step{})
	p.place = to
}
