package parse_test

import (
	"hash/crc32"
	"math/big"

	"sapper/api"
)

// The chapter's words, taken literally: all the bytes are laid out from the front on, numbers have no end, and what a Step tells is looked up by the places.

// stretch: bytes of a stream that stand in a row.
type stretch struct{ from, to, stream int }

// layout: what bytes say, as far as they go.
type layout struct {
	bytes   []byte
	told    map[int]api.Event // by how many bytes there are: what is told with the last of them
	streams []stretch
	wrong   int // which byte is wrong; -1: none
	why     api.Errno
	ended   int // how many bytes the patch has; -1: it does not end
}

// wrongAt: this byte is wrong.
func (l layout) wrongAt(at int, why api.Errno) layout {
	l.wrong, l.why = at, why
	return l
}

// number: the one that stands at a place, by chapter 1, and the place behind it; -1: the bytes end within it; wrong: the byte that is wrong, or -1.
func number(b []byte, at int) (v *big.Int, behind, wrong int) {
	v = new(big.Int)
	for i := 0; ; i++ {
		if at+i >= len(b) {
			return nil, -1, -1
		}
		x := b[at+i]
		if i == 9 && x > 1 || i > 0 && x == 0 {
			return nil, -1, at + i
		}
		group := big.NewInt(int64(x % 128))
		v.Add(v, group.Lsh(group, uint(7*i)))
		if x < 128 {
			return v, at + i + 1, -1
		}
	}
}

// numbers: so many that stand at a place, likewise.
func numbers(b []byte, at, count int) (l []*big.Int, behind, wrong int) {
	for range count {
		v, next, bad := number(b, at)
		if next < 0 {
			return nil, -1, bad
		}
		l, at = append(l, v), next
	}
	return l, at, -1
}

// between: is a number one of these?
func between(v *big.Int, least, most int64) bool {
	return v.Cmp(big.NewInt(least)) >= 0 && v.Cmp(big.NewInt(most)) <= 0
}

// headMayBe: A header may be, of its four numbers.
func headMayBe(l []*big.Int) bool {
	return between(l[0], 0, 1<<24) && between(l[1], 0, 1<<24) && between(l[2], 64, 65536) && between(l[3], 1, 32768)
}

// sizesMayBe: Sizes may be, of their seven numbers, for a window of so many bytes.
func sizesMayBe(h api.Head, size int, l []*big.Int) bool {
	if !between(l[0], 0, int64(h.Old)) || !between(l[1], 1, 6*int64(h.Window)) {
		return false
	}
	if both := new(big.Int).Add(l[2], l[3]); !between(both, int64(size), int64(size)) {
		return false
	}
	for k := range 3 {
		raw, packed := l[1+k], l[4+k]
		if raw.Sign() == 0 {
			if packed.Sign() != 0 {
				return false
			}
			continue
		}
		most := new(big.Int).Mul(raw, big.NewInt(4))
		most.Add(most, big.NewInt(64))
		if packed.Sign() == 0 || packed.Cmp(most) > 0 {
			return false
		}
	}
	return true
}

// sumAt: of the four bytes at a place: are they there, and are they the sum of all ahead of them?
func sumAt(b []byte, at int) (there, right bool) {
	if len(b) < at+4 {
		return false, false
	}
	return true, string(b[at:at+4]) == string(four(crc32.ChecksumIEEE(b[:at])))
}

// word: the four bytes at a place, the least first.
func word(b []byte, at int) uint32 {
	return uint32(b[at]) + uint32(b[at+1])*256 + uint32(b[at+2])*65536 + uint32(b[at+3])*16777216
}

// layoutOf: bytes as a patch's parts.
func layoutOf(b []byte) layout {
	l := layout{bytes: b, told: map[int]api.Event{}, wrong: -1, ended: -1}
	for i, v := range []byte{'S', 'A', 'P', 'R', 1} {
		if i == len(b) {
			return l
		}
		if b[i] != v {
			return l.wrongAt(i, api.ErrParseForm)
		}
	}
	n, at, wrong := numbers(b, 5, 4)
	if wrong >= 0 {
		return l.wrongAt(wrong, api.ErrParseForm)
	}
	if at < 0 {
		return l
	}
	there, right := sumAt(b, at+8)
	if !there {
		return l
	}
	if !right {
		return l.wrongAt(at+11, api.ErrParseSum)
	}
	if !headMayBe(n) {
		return l.wrongAt(at+11, api.ErrParseForm)
	}
	h := api.Head{Old: int(n[0].Int64()), New: int(n[1].Int64()), Window: int(n[2].Int64()), Look: int(n[3].Int64()), OldSum: word(b, at), NewSum: word(b, at+4)}
	l.told[at+12] = api.Event{Kind: api.EventHead, Head: h}
	return l.windows(h, at+12)
}

// windows: from a place on, those of a header, and the end.
func (l layout) windows(h api.Head, at int) layout {
	b := l.bytes
	for left := h.New; left > 0; left -= min(left, h.Window) {
		n, behind, wrong := numbers(b, at, 7)
		if wrong >= 0 {
			return l.wrongAt(wrong, api.ErrParseForm)
		}
		if behind < 0 {
			return l
		}
		if !sizesMayBe(h, min(left, h.Window), n) {
			return l.wrongAt(behind-1, api.ErrParseForm)
		}
		s := api.Sizes{Pos: int(n[0].Int64())}
		for k := range 3 {
			s.Raw[k], s.Packed[k] = int(n[1+k].Int64()), int(n[4+k].Int64())
		}
		l.told[behind] = api.Event{Kind: api.EventWindow, Sizes: s}
		at = behind
		for k, size := range s.Packed {
			if size > 0 {
				l.streams = append(l.streams, stretch{at, at + size, k})
			}
			at += size
		}
		if at > len(b) {
			return l
		}
	}
	there, right := sumAt(b, at)
	if !there {
		return l
	}
	if !right {
		return l.wrongAt(at+3, api.ErrParseSum)
	}
	l.told[at+4] = api.Event{Kind: api.EventEnd}
	l.ended = at + 4
	return l
}

// streamAt: the stream that the byte at a place belongs to.
func (l layout) streamAt(at int) (stretch, bool) {
	// By halves: of the greatest patches there are many.
	low, high := 0, len(l.streams)
	for low < high {
		mid := (low + high) / 2
		if l.streams[mid].to <= at {
			low = mid + 1
		} else {
			high = mid
		}
	}
	if low < len(l.streams) && l.streams[low].from <= at {
		return l.streams[low], true
	}
	return stretch{}, false
}

// model: a parser that is fed with the bytes of a layout.
type model struct {
	layout
	taken, made int
	head        api.Head
	headTold    bool
	err         api.Errno
}

// modelOf: one that waits for the first of these bytes.
func modelOf(b []byte) *model { return &model{layout: layoutOf(b)} }

// step: P19.2, of the next so many bytes.
func (m *model) step(count int) (api.Event, int, api.Errno) {
	if m.err != api.OK {
		return api.Event{}, 0, m.err
	}
	for n := range count {
		at := m.taken + n
		if at == m.ended {
			return api.Event{}, 0, api.OK
		}
		if at == m.wrong {
			m.err = m.why
			return api.Event{}, 0, m.err
		}
		if s, is := m.streamAt(at); is {
			end := min(s.to, m.taken+count)
			told := api.Event{Kind: api.EventBytes, Stream: s.stream, Bytes: m.bytes[at:end]}
			n := end - m.taken
			m.taken = end
			return told, n, api.OK
		}
		if told, is := m.told[at+1]; is {
			m.taken = at + 1
			m.note(told)
			return told, n + 1, api.OK
		}
	}
	m.taken += count
	return api.Event{}, count, api.OK
}

// note: P19.3, what was told.
func (m *model) note(told api.Event) {
	switch told.Kind {
	case api.EventHead:
		m.head, m.headTold = told.Head, true
	case api.EventWindow:
		m.made += told.Sizes.Raw[1] + told.Sizes.Raw[2]
	}
}

// done: P19.3.
func (m *model) done() bool { return m.taken == m.ended }

// end: P19.3.
func (m *model) end() api.Errno {
	if m.err != api.OK {
		return m.err
	}
	if !m.done() {
		return api.ErrParseEnd
	}
	return api.OK
}

// allOf: P19.5.
func allOf(b []byte) ([]api.Event, api.Errno) {
	m := modelOf(b)
	var out []api.Event
	for m.taken < len(b) && !m.done() {
		told, _, err := m.step(len(b) - m.taken)
		if err != api.OK {
			return nil, err
		}
		if told.Kind != api.EventNone {
			out = append(out, told)
		}
	}
	if err := m.end(); err != api.OK {
		return nil, err
	}
	if m.taken < len(b) {
		return nil, api.ErrParseForm
	}
	return out, api.OK
}
