package apply_test

import (
	"hash/crc32"

	"sapper/api"
	"sapper/apply"
	"sapper/cutter"
	"sapper/flash"
	"sapper/parse"
	"sapper/purse"
	"sapper/swell"
)

// applier: the calls of the chapter's list. The program has them, and so has the model.
type applier interface {
	Feed(b []byte) api.Errno
	Finish() api.Errno
	Committed() bool
	Err() api.Errno
	Head() (api.Head, bool)
	Made() int
	Held() int
	Bound() int
}

var _ applier = (*apply.Applier)(nil)

// model: an applier over a flash of its own, by the chapter's words, taken literally: bytes are taken one by one, each stream has a swell of its own, all bytes that were made are kept, and each is read and written by itself.
type model struct {
	flash        *flash.Flash
	page         int
	window, look int
	old, new     int // the slots
	parser       *parse.Parser
	head         api.Head
	headTold     bool
	sizes        api.Sizes
	swell        *swell.Swell
	came         [3]int // bytes of the window's streams
	raw          [3][]byte
	made         []byte // all bytes, also of a window that was refused
	count        int
	held         []byte // of the page at hand
	pages        int
	err          api.Errno
	finished     bool
	room, bound  int
}

// modelNew: P24.1.
func modelNew(f *flash.Flash, window, look int) (*model, api.Errno) {
	if f.Shape().Page == 0 {
		return nil, api.ErrMade
	}
	if window < 64 || window > 65536 {
		return nil, api.ErrApplySize
	}
	if look < 1 || look > 32768 {
		return nil, api.ErrApplySize
	}
	m := &model{flash: f, page: f.Shape().Page, window: window, look: look, parser: parse.New()}
	m.room, m.bound = roomOf(m.page, window, look), purse.Bound(m.page, window, look)
	if m.old = f.Active(); m.old == 0 {
		m.new = 1
	}
	return m, api.OK
}

// Feed: P24.2.
func (m *model) Feed(b []byte) api.Errno {
	if m.err != api.OK {
		return m.err
	}
	if m.finished {
		return api.ErrApplyOver
	}
	for _, v := range b {
		if m.err = m.take(v); m.err != api.OK {
			return m.err
		}
	}
	return api.OK
}

// take: a byte, and what is told then.
func (m *model) take(v byte) api.Errno {
	if m.parser.Done() {
		return api.ErrApplyForm
	}
	told, _, err := m.parser.Step([]byte{v})
	switch {
	case err == api.ErrParseSum:
		return api.ErrApplySum
	case err != api.OK:
		return api.ErrApplyForm
	case told.Kind == api.EventHead:
		return m.takeHead(told.Head)
	case told.Kind == api.EventWindow:
		m.sizes, m.came, m.raw = told.Sizes, [3]int{}, [3][]byte{}
	case told.Kind == api.EventBytes:
		return m.takeByte(told.Stream, told.Bytes[0])
	}
	return api.OK
}

// takeHead: P24.2, the header.
func (m *model) takeHead(h api.Head) api.Errno {
	if h.Window > m.window {
		return api.ErrApplySize
	}
	if h.Look > m.look {
		return api.ErrApplySize
	}
	slot := m.flash.Shape().Page * m.flash.Shape().Pages
	if h.Old > slot || h.New > slot {
		return api.ErrApplySize
	}
	var old []byte
	if h.Old > 0 {
		b, err := m.flash.Read(m.old, 0, h.Old)
		if err != api.OK {
			return api.ErrApplyFlash
		}
		old = b
	}
	if crc32.ChecksumIEEE(old) != h.OldSum {
		return api.ErrApplyOld
	}
	m.head, m.headTold = h, true
	return api.OK
}

// takeByte: P24.2, a byte of a stream.
func (m *model) takeByte(k int, v byte) api.Errno {
	if m.came[k] == 0 {
		m.swell, _ = swell.New(m.head.Look, m.sizes.Raw[k])
	}
	m.came[k]++
	rest := []byte{v}
	for {
		out, n, err := m.swell.Step(rest, 1)
		if err != api.OK {
			return api.ErrApplyForm
		}
		m.raw[k], rest = append(m.raw[k], out...), rest[n:]
		if len(out) == 0 && n == 0 {
			break
		}
	}
	if len(rest) > 0 {
		return api.ErrApplyForm
	}
	if m.came[k] < m.sizes.Packed[k] {
		return api.OK
	}
	if m.swell.End() != api.OK {
		return api.ErrApplyForm
	}
	if len(m.raw[k]) < m.sizes.Raw[k] {
		return api.ErrApplyForm
	}
	for _, n := range m.sizes.Packed[k+1:] {
		if n > 0 {
			return api.OK
		}
	}
	return m.takeWindow()
}

// takeWindow: P24.2, a window is whole.
func (m *model) takeWindow() api.Errno {
	steps, err := cutter.Uncontrol(m.raw[0])
	if err != api.OK {
		return api.ErrApplyForm
	}
	w := api.Window{Pos: m.sizes.Pos, Edit: api.Edit{Steps: steps, Diff: m.raw[1], Extra: m.raw[2]}}
	size := min(m.head.Window, m.head.New-m.count)
	if cutter.Check(w, 1<<24, size) != api.OK {
		return api.ErrApplyForm
	}
	if cutter.Check(w, m.head.Old, size) != api.OK {
		return api.ErrApplyRead
	}
	place, diff, extra := w.Pos, w.Edit.Diff, w.Edit.Extra
	for _, s := range steps {
		for range s.Add {
			b, err := m.flash.Read(m.old, place, 1)
			if err != api.OK || !m.write(b[0]+diff[0]) {
				return api.ErrApplyFlash
			}
			place, diff = place+1, diff[1:]
		}
		for range s.Copy {
			if !m.write(extra[0]) {
				return api.ErrApplyFlash
			}
			extra = extra[1:]
		}
		place += s.Seek
	}
	m.count += size
	return api.OK
}

// write: a byte into the new slot, as chapter 22 has it; false: the flash has refused.
func (m *model) write(v byte) bool {
	m.made, m.held = append(m.made, v), append(m.held, v)
	return len(m.held) < m.page || m.lay()
}

// lay: the next page is erased and programmed.
func (m *model) lay() bool {
	if m.flash.Erase(m.new, m.pages) != api.OK {
		return false
	}
	if m.flash.Program(m.new, m.pages, m.held) != api.OK {
		return false
	}
	m.held, m.pages = nil, m.pages+1
	return true
}

// Finish: P24.3.
func (m *model) Finish() api.Errno {
	if m.err != api.OK {
		return m.err
	}
	if m.finished {
		return api.ErrApplyOver
	}
	switch {
	case !m.parser.Done():
		m.err = api.ErrApplyForm
	case crc32.ChecksumIEEE(m.made) != m.head.NewSum:
		m.err = api.ErrApplySum
	case len(m.held) > 0 && !m.lay():
		m.err = api.ErrApplyFlash
	}
	m.finished = m.err == api.OK
	return m.err
}

// P24.4, P24.5.
func (m *model) Committed() bool        { return m.finished }
func (m *model) Err() api.Errno         { return m.err }
func (m *model) Head() (api.Head, bool) { return m.head, m.headTold }
func (m *model) Made() int              { return m.count }
func (m *model) Held() int              { return m.room }
func (m *model) Bound() int             { return m.bound }

// roomOf: P24.5, by the Rooms of the chapters 22, 11 and 19.
func roomOf(page, window, look int) int {
	s, _ := swell.New(look, 0)
	return page + s.Room() + parse.New().Room() + 2*window + cutter.Most(window) + 64
}
