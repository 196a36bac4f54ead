package page

import (
	"sapper/api"
	"sapper/flash"
)

// slot is the one that is written into, and how far that has come.
type slot struct {
	*flash.Flash
	area    int
	page    []byte // the page at hand
	held    int    // bytes of it that are there
	pages   int    // programmed: the next one has this number
	written int
	closed  api.Errno // what is answered from here on, failed or ended; OK: it goes on
}

// left: how many bytes it has room for.
func (s *slot) left() int {
	shape := s.Shape()
	return shape.Page*shape.Pages - s.written
}

// take: bytes that there is room for. They count as written when all of them were taken.
func (s *slot) take(b []byte) api.Errno {
	for rest := b; len(rest) > 0; {
		n := copy(s.page[s.held:], rest)
		s.held += n
		rest = rest[n:]
		if s.held == len(s.page) {
			if err := s.lay(); err != api.OK {
				return err
			}
		}
	}
	s.written += len(b)
	return api.OK
}

// end: what is held, too.
func (s *slot) end() api.Errno {
	if s.held > 0 {
		if err := s.lay(); err != api.OK {
			return err
		}
	}
	s.closed = api.ErrPageOver
	return api.OK
}

// lay: what is held becomes the next page.
func (s *slot) lay() api.Errno {
	err := s.Erase(s.area, s.pages)
	if err == api.OK {
		err = s.Program(s.area, s.pages, s.page[:s.held])
	}
	if err != api.OK {
		s.closed = err
		return err
	}
	s.pages++
	s.held = 0
	return api.OK
}
