package apply

import (
	"sapper/api"
	"sapper/cutter"
)

// open: a window begins.
func (m *machine) open(s api.Sizes) {
	m.sizes, m.left = s, s.Packed
	for k := range m.raw {
		m.raw[k] = m.raw[k][:0]
	}
}

// take: bytes of a stream. With the last ones of the last stream the window is whole.
func (m *machine) take(k int, b []byte) api.Errno {
	most := m.sizes.Raw[k]
	if m.left[k] == m.sizes.Packed[k] {
		// Never refused: the header's Look is not above that of New, and no stream's raw size above MaxCap.
		m.swell.Reset(m.head.Look, most)
	}
	m.left[k] -= len(b)
	// One more than the cap never comes out, so that this goes on as far as the bytes lead.
	out, taken, err := m.swell.Step(b, most+1)
	if err != api.OK || taken < len(b) {
		return api.ErrApplyForm
	}
	// Never beyond its room: the parser holds the raw sizes against the header's Window, which is not above that of New.
	m.raw[k] = append(m.raw[k], out...)
	if m.left[k] == 0 && (!m.swell.Done() || len(m.raw[k]) < most) {
		return api.ErrApplyForm
	}
	if m.left == [streams]int{} {
		return m.whole()
	}
	return api.OK
}

// whole: all of a window is there.
func (m *machine) whole() api.Errno {
	steps, err := cutter.Uncontrol(m.raw[control])
	if err != api.OK {
		return api.ErrApplyForm
	}
	w := api.Window{Pos: m.sizes.Pos, Edit: api.Edit{Steps: steps, Diff: m.raw[diff], Extra: m.raw[extra]}}
	size := m.sizes.Raw[diff] + m.sizes.Raw[extra]
	if cutter.Check(w, api.MaxImage, size) != api.OK {
		return api.ErrApplyForm
	}
	if cutter.Check(w, m.head.Old, size) != api.OK {
		return api.ErrApplyRead
	}
	if err := m.play(w); err != api.OK {
		return err
	}
	m.done += size
	return api.OK
}

// play: a window's bytes are made and written, step by step.
func (m *machine) play(w api.Window) api.Errno {
	place, more, own := w.Pos, w.Edit.Diff, w.Edit.Extra
	for _, s := range w.Edit.Steps {
		if err := m.add(place, more[:s.Add]); err != api.OK {
			return err
		}
		if err := m.write(own[:s.Copy]); err != api.OK {
			return err
		}
		place, more, own = place+s.Add+s.Seek, more[s.Add:], own[s.Copy:]
	}
	return api.OK
}

// add: old bytes from a place on, to which these are added, are written.
func (m *machine) add(place int, more []byte) api.Errno {
	return m.read(place, len(more), func(b []byte) api.Errno {
		for i := range b {
			b[i] += more[i]
		}
		more = more[len(b):]
		return m.write(b)
	})
}
