package flash_test

import (
	"bytes"
	"encoding/binary"
	"hash/crc32"
	"slices"

	"sapper/api"
	"sapper/flash"
)

// device: the calls of the chapter's list. The program has them, and so has the model.
type device interface {
	Shape() api.Shape
	Active() int
	Turn() api.Errno
	Read(area, at, n int) ([]byte, api.Errno)
	Erase(area, page int) api.Errno
	Program(area, page int, b []byte) api.Errno
	Erased(area, page int) (bool, api.Errno)
	Cut(n int, torn []byte) api.Errno
	Power()
	On() bool
	Log() []api.Op
	Ops() int
	Limit(n int) api.Errno
	Wear(area, page int) (int, api.Errno)
	Save() ([]byte, api.Errno)
}

var _ device = (*flash.Flash)(nil)

// leaf: a page; all its bytes stand there.
type leaf struct {
	bytes  []byte
	erased bool
	wear   int
}

// model: a device by the chapter's words, taken literally.
type model struct {
	shape  api.Shape
	active int
	power  bool
	limit  int
	areas  [3][]leaf
	log    []api.Op
	left   int // 0: no cut is planned
	torn   []byte
}

// filled: bytes, and 255 behind them, so many in all.
func filled(b []byte, size int) []byte {
	out := slices.Clone(b)
	for len(out) < size {
		out = append(out, 255)
	}
	return out
}

// shapeMay: may a shape be?
func shapeMay(s api.Shape) bool {
	return s.Page >= 64 && s.Page <= 4096 && s.Pages >= 1 && s.Pages <= 4096
}

// modelNew: P21.1.
func modelNew(s api.Shape, active int, slots [2][]byte) (*model, api.Errno) {
	if !shapeMay(s) || active != 0 && active != 1 || len(slots[0]) > s.Page*s.Pages || len(slots[1]) > s.Page*s.Pages {
		return nil, api.ErrFlashSetup
	}
	m := &model{shape: s, active: active, power: true}
	for area := range slots {
		all := filled(slots[area], s.Page*s.Pages)
		for page := range s.Pages {
			m.areas[area] = append(m.areas[area], leaf{bytes: slices.Clone(all[page*s.Page : (page+1)*s.Page])})
		}
	}
	for range 2 {
		m.areas[2] = append(m.areas[2], leaf{bytes: filled(nil, s.Page), erased: true})
	}
	return m, api.OK
}

func (m *model) Shape() api.Shape { return m.shape }
func (m *model) Active() int      { return m.active }

func (m *model) Turn() api.Errno {
	if !m.power {
		return api.ErrFlashPower
	}
	m.active ^= 1
	return api.OK
}

func (m *model) Read(area, at, n int) ([]byte, api.Errno) {
	if !m.power {
		return nil, api.ErrFlashPower
	}
	if area < 0 || area > 2 || at < 0 || n < 0 {
		return nil, api.ErrFlashPlace
	}
	var all []byte
	for _, l := range m.areas[area] {
		all = append(all, l.bytes...)
	}
	if at > len(all) || n > len(all) || at+n > len(all) {
		return nil, api.ErrFlashPlace
	}
	return all[at : at+n], api.OK
}

// leaf: a page, if there is one.
func (m *model) leaf(area, page int) *leaf {
	if area < 0 || area > 2 || page < 0 || page >= len(m.areas[area]) {
		return nil
	}
	return &m.areas[area][page]
}

// tears: an operation; is it cut? Then its page is torn, and the power gone.
func (m *model) tears(l *leaf, o api.Op) bool {
	m.log = append(m.log, o)
	if m.left == 0 {
		return false
	}
	m.left--
	if m.left > 0 {
		return false
	}
	l.bytes = append(slices.Clone(m.torn), l.bytes[len(m.torn):]...)
	l.erased = false
	m.power = false
	return true
}

func (m *model) Erase(area, page int) api.Errno {
	if !m.power {
		return api.ErrFlashPower
	}
	l := m.leaf(area, page)
	if l == nil {
		return api.ErrFlashPlace
	}
	if l.wear == 1<<40 || m.limit != 0 && l.wear >= m.limit {
		return api.ErrFlashWorn
	}
	l.wear++
	if m.tears(l, api.Op{Kind: api.OpErase, Area: area, Page: page}) {
		return api.ErrFlashPower
	}
	l.bytes, l.erased = filled(nil, m.shape.Page), true
	return api.OK
}

func (m *model) Program(area, page int, b []byte) api.Errno {
	if !m.power {
		return api.ErrFlashPower
	}
	l := m.leaf(area, page)
	if l == nil {
		return api.ErrFlashPlace
	}
	if len(b) > m.shape.Page {
		return api.ErrArg
	}
	if !l.erased {
		return api.ErrFlashOrder
	}
	if m.tears(l, api.Op{Kind: api.OpProgram, Area: area, Page: page}) {
		return api.ErrFlashPower
	}
	l.bytes, l.erased = filled(b, m.shape.Page), false
	return api.OK
}

func (m *model) Erased(area, page int) (bool, api.Errno) {
	if !m.power {
		return false, api.ErrFlashPower
	}
	l := m.leaf(area, page)
	if l == nil {
		return false, api.ErrFlashPlace
	}
	return l.erased, api.OK
}

func (m *model) Cut(n int, torn []byte) api.Errno {
	if !m.power {
		return api.ErrFlashPower
	}
	if n < 0 || len(torn) > m.shape.Page {
		return api.ErrArg
	}
	m.left, m.torn = n, slices.Clone(torn)
	return api.OK
}

func (m *model) Power()        { m.power = true }
func (m *model) On() bool      { return m.power }
func (m *model) Log() []api.Op { return slices.Clone(m.log) }
func (m *model) Ops() int      { return len(m.log) }

func (m *model) Limit(n int) api.Errno {
	if n < 0 || n > 1<<40 {
		return api.ErrArg
	}
	m.limit = n
	return api.OK
}

func (m *model) Wear(area, page int) (int, api.Errno) {
	l := m.leaf(area, page)
	if l == nil {
		return 0, api.ErrFlashPlace
	}
	return l.wear, api.OK
}

func (m *model) Save() ([]byte, api.Errno) {
	if !m.power {
		return nil, api.ErrFlashPower
	}
	return sealed(m.body()), api.OK
}

// body: what stands ahead of the sum, also of a device that may not be.
func (m *model) body() []byte {
	out := []byte("FLSH\x01")
	for _, v := range []int{m.shape.Page, m.shape.Pages, m.active, m.limit} {
		out = binary.AppendUvarint(out, uint64(v))
	}
	for _, area := range m.areas {
		for _, l := range area {
			out = binary.AppendUvarint(out, uint64(l.wear))
			if l.erased {
				out = append(out, 1)
				continue
			}
			out = append(out, 0)
			out = append(out, l.bytes...)
		}
	}
	return out
}

// sealed: bytes with their sum behind them.
func sealed(body []byte) []byte {
	return binary.LittleEndian.AppendUint32(slices.Clone(body), crc32.ChecksumIEEE(body))
}

// modelLoad: P21.11: bytes are taken, if they are just those that Save answers of what they seem to say.
func modelLoad(b []byte) (*model, api.Errno) {
	m := &model{power: true}
	rest := b[min(5, len(b)):]
	number := func() uint64 {
		v, n := binary.Uvarint(rest)
		rest = rest[max(n, 0):]
		return v
	}
	numbers := [4]uint64{number(), number(), number(), number()}
	for i, most := range []uint64{4096, 4096, 1, 1 << 40} {
		if numbers[i] > most {
			return nil, api.ErrFlashForm
		}
	}
	m.shape = api.Shape{Page: int(numbers[0]), Pages: int(numbers[1])}
	m.active, m.limit = int(numbers[2]), int(numbers[3])
	if !shapeMay(m.shape) {
		return nil, api.ErrFlashForm
	}
	for area, pages := range []int{m.shape.Pages, m.shape.Pages, 2} {
		for range pages {
			wear := number()
			if wear > 1<<40 || len(rest) == 0 {
				return nil, api.ErrFlashForm
			}
			l := leaf{wear: int(wear), erased: rest[0] == 1}
			rest = rest[1:]
			if !l.erased {
				n := min(m.shape.Page, len(rest))
				l.bytes, rest = slices.Clone(rest[:n]), rest[n:]
			}
			l.bytes = filled(l.bytes, m.shape.Page)
			m.areas[area] = append(m.areas[area], l)
		}
	}
	if again, _ := m.Save(); !bytes.Equal(again, b) {
		return nil, api.ErrFlashForm
	}
	return m, api.OK
}
