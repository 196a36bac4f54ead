package page_test

import (
	"sapper/api"
	"sapper/flash"
	"sapper/page"
)

// writer: the calls of the chapter's list. The program has them, and so has the model.
type writer interface {
	Write(b []byte) api.Errno
	End() api.Errno
	Written() int
	Pages() int
	Room() int
}

var _ writer = (*page.Writer)(nil)

// model: a writer over a flash of its own, by the chapter's words, taken literally.
type model struct {
	flash   *flash.Flash
	slot    int
	taken   int
	held    []byte
	written int
	pages   int
	failed  api.Errno // OK: it has not
	ended   bool
}

// modelNew: P22.1, over a flash that a call made.
func modelNew(f *flash.Flash) *model {
	m := &model{flash: f}
	if f.Active() == 0 {
		m.slot = 1
	}
	return m
}

// Write: P22.2.
func (m *model) Write(b []byte) api.Errno {
	if m.failed != api.OK {
		return m.failed
	}
	if m.ended {
		return api.ErrPageOver
	}
	if m.taken+len(b) > m.flash.Shape().Page*m.flash.Shape().Pages {
		return api.ErrPageFull
	}
	for _, v := range b {
		m.taken++
		m.held = append(m.held, v)
		if len(m.held) < m.flash.Shape().Page {
			continue
		}
		if m.next(); m.failed != api.OK {
			return m.failed
		}
	}
	m.written += len(b)
	return api.OK
}

// End: P22.3.
func (m *model) End() api.Errno {
	if m.failed != api.OK {
		return m.failed
	}
	if m.ended {
		return api.ErrPageOver
	}
	if len(m.held) > 0 {
		if m.next(); m.failed != api.OK {
			return m.failed
		}
	}
	m.ended = true
	return api.OK
}

// next: the next page is erased and programmed with what is held.
func (m *model) next() {
	if m.failed = m.flash.Erase(m.slot, m.pages); m.failed != api.OK {
		return
	}
	if m.failed = m.flash.Program(m.slot, m.pages, m.held); m.failed != api.OK {
		return
	}
	m.pages++
	m.held = nil
}

// P22.4.
func (m *model) Written() int { return m.written }
func (m *model) Pages() int   { return m.pages }
func (m *model) Room() int    { return m.flash.Shape().Page }
