package flash

import (
	"slices"

	"sapper/api"
	"sapper/crc"
	"sapper/num"
)

const (
	magic    = "FLSH\x01"
	sumBytes = 4
)

// Save: the device as bytes.
func (f *Flash) Save() ([]byte, api.Errno) {
	if err := f.stops(); err != api.OK {
		return nil, err
	}
	out := []byte(magic)
	out = append(out, num.Encode(uint64(f.shape.Page), uint64(f.shape.Pages), uint64(f.active), uint64(f.limit))...)
	for area := range records + 1 {
		for page := range f.pagesOf(area) {
			out = append(out, f.saved(f.sheet(place{area, page}))...)
		}
	}
	return append(out, sumOf(out)...), api.OK
}

// saved: a page as bytes.
func (f *Flash) saved(s sheet) []byte {
	out := num.Encode(uint64(s.wear))
	if s.erased {
		return append(out, 1)
	}
	return append(append(out, 0), f.laid(nil, s)...)
}

// sumOf: of bytes, as the four that stand behind them.
func sumOf(b []byte) []byte {
	// Four bytes hold every sum.
	out, _ := num.Fixed(uint64(crc.Sum(b)), sumBytes)
	return out
}

// Load: the device of these bytes.
func Load(b []byte) (*Flash, api.Errno) {
	end := len(b) - sumBytes
	if end < 0 || !slices.Equal(sumOf(b[:end]), b[end:]) {
		return nil, api.ErrFlashForm
	}
	r := reader{rest: b[:end]}
	f := r.bare()
	for area := range records + 1 {
		for page := range f.pagesOf(area) {
			f.pages[place{area, page}] = r.sheet(f.shape.Page)
		}
	}
	if r.wrong || len(r.rest) > 0 {
		return nil, api.ErrFlashForm
	}
	return f, api.OK
}

// reader takes a device from the front on. Behind something wrong it goes on, but what it answers has no meaning then.
type reader struct {
	rest  []byte
	wrong bool
}

// take: the next bytes.
func (r *reader) take(n int) []byte {
	if n > len(r.rest) {
		r.wrong = true
		return nil
	}
	out := r.rest[:n]
	r.rest = r.rest[n:]
	return out
}

// number: the next one. It is held against its bounds as it is, since it may be more than an int holds.
func (r *reader) number(least, most int) int {
	v, n, err := num.Decode(r.rest)
	if err != api.OK || v < uint64(least) || v > uint64(most) {
		r.wrong = true
		return least
	}
	r.rest = r.rest[n:]
	return int(v)
}

// bare: the device but for its pages.
func (r *reader) bare() *Flash {
	if string(r.take(len(magic))) != magic {
		r.wrong = true
	}
	f := &Flash{on: true, pages: map[place]sheet{}}
	f.shape.Page = r.number(minPage, api.MaxPage)
	f.shape.Pages = r.number(1, api.MaxPages)
	f.active = r.number(0, 1)
	f.limit = r.number(0, maxWear)
	return f
}

// sheet: a page.
func (r *reader) sheet(size int) sheet {
	s := sheet{wear: r.number(0, maxWear)}
	// A number up to 1 has just one byte in its shortest form.
	s.erased = r.number(0, 1) == 1
	if !s.erased {
		s.bytes = slices.Clone(r.take(size))
	}
	return s
}
