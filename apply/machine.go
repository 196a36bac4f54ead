package apply

import (
	"sapper/api"
	"sapper/crc"
	"sapper/cutter"
	"sapper/flash"
	"sapper/page"
	"sapper/parse"
	"sapper/purse"
	"sapper/swell"
)

// The streams of a window.
const (
	control = iota
	diff
	extra
	streams // how many
)

// numbers: bytes of room for what stands in no buffer.
const numbers = 64

// machine does what a patch says. All that it holds is made once, and its purse knows of it.
type machine struct {
	*purse.Purse
	flash        *flash.Flash
	old          int // the slot that is read
	pages        *page.Writer
	parser       *parse.Parser
	swell        *swell.Swell // of the stream at hand
	window, look int          // the greatest of a header
	bound        int          // bytes that it may hold; reckoned once, since that makes a swell
	head         api.Head
	begun        bool            // is the header there?
	sizes        api.Sizes       // of the window at hand
	left         [streams]int    // bytes of its streams, packed, that are still to come
	raw          [streams][]byte // what its streams have come to so far
	done         int             // bytes of the windows that were made and written
	sum          uint32          // of all bytes that were written
	closed       api.Errno       // what is answered from here on, failed or over; OK: it goes on
}

// newMachine: over a flash, with a writer of its other slot's pages. Nothing is refused: the window may be, and so may the look.
func newMachine(f *flash.Flash, pages *page.Writer, window, look int) *machine {
	taking, _ := swell.New(look, 0)
	m := &machine{
		Purse:  purse.New(),
		flash:  f,
		old:    f.Active(),
		pages:  pages,
		parser: parse.New(),
		swell:  taking,
		window: window,
		look:   look,
		bound:  purse.Bound(pages.Room(), window, look),
	}
	for k, n := range [streams]int{control: cutter.Most(window), diff: window, extra: window} {
		m.raw[k] = make([]byte, 0, n)
	}
	m.count()
	return m
}

// count: the purse is told who holds what. It stays so, whatever comes.
func (m *machine) count() {
	for _, h := range [...]struct {
		name string
		room int
	}{
		{"page", m.pages.Room()},
		{"parse", m.parser.Room()},
		{"swell", m.swell.Room()},
		{"control", cap(m.raw[control])},
		{"diff", cap(m.raw[diff])},
		{"extra", cap(m.raw[extra])},
		{"numbers", numbers},
	} {
		m.Open(h.name, h.room)
		m.Hold(h.name, h.room)
	}
}

// feed: bytes of the patch, each of which is done with ahead of the next thing that is told.
func (m *machine) feed(b []byte) api.Errno {
	for len(b) > 0 {
		if m.parser.Done() {
			return api.ErrApplyForm
		}
		told, taken, err := m.parser.Step(b)
		if err == api.ErrParseSum {
			return api.ErrApplySum
		}
		if err != api.OK {
			return api.ErrApplyForm
		}
		if err := m.heed(told); err != api.OK {
			return err
		}
		b = b[taken:]
	}
	return api.OK
}

// heed: what is told of the patch is done.
func (m *machine) heed(told api.Event) api.Errno {
	switch told.Kind {
	case api.EventHead:
		return m.begin(told.Head)
	case api.EventWindow:
		m.open(told.Sizes)
	case api.EventBytes:
		return m.take(told.Stream, told.Bytes)
	}
	return api.OK
}

// begin: the header, which must fit the device and the image that it runs.
func (m *machine) begin(h api.Head) api.Errno {
	shape := m.flash.Shape()
	slot := shape.Page * shape.Pages
	if h.Window > m.window || h.Look > m.look || h.Old > slot || h.New > slot {
		return api.ErrApplySize
	}
	sum := uint32(0)
	err := m.read(0, h.Old, func(b []byte) api.Errno {
		sum = crc.More(sum, b)
		return api.OK
	})
	if err != api.OK {
		return err
	}
	if sum != h.OldSum {
		return api.ErrApplyOld
	}
	m.head, m.begun = h, true
	return api.OK
}

// read: so many bytes of the old slot from a place on, no more than a page of them at one time. Of none the flash is not asked.
func (m *machine) read(at, n int, do func(b []byte) api.Errno) api.Errno {
	for n > 0 {
		b, err := m.flash.Read(m.old, at, min(n, m.pages.Room()))
		if err != api.OK {
			return api.ErrApplyFlash
		}
		if err := do(b); err != api.OK {
			return err
		}
		at, n = at+len(b), n-len(b)
	}
	return api.OK
}

// write: bytes of the new image.
func (m *machine) write(b []byte) api.Errno {
	if m.pages.Write(b) != api.OK {
		return api.ErrApplyFlash
	}
	m.sum = crc.More(m.sum, b)
	return api.OK
}

// finish: no more bytes come.
func (m *machine) finish() api.Errno {
	if !m.parser.Done() {
		return api.ErrApplyForm
	}
	if m.sum != m.head.NewSum {
		return api.ErrApplySum
	}
	if m.pages.End() != api.OK {
		return api.ErrApplyFlash
	}
	return api.OK
}
