package swell_test

import (
	"bytes"
	"slices"
	"testing"

	"sapper/api"
	"sapper/swell"
)

// rolls: numbers that follow no pattern and are the same at each run.
type rolls uint64

// below: a number from 0 on, below n.
func (r *rolls) below(n int) int {
	*r = *r*6364136223846793005 + 1442695040888963407
	return int(uint64(*r>>33) % uint64(n))
}

// bytes: so many, of so many kinds.
func (r *rolls) bytes(n, kinds int) []byte {
	out := make([]byte, n)
	for i := range out {
		out[i] = byte(r.below(kinds))
	}
	return out
}

// bitsOf: the bits of bytes, the lowest of each first.
func bitsOf(b []byte) []byte {
	var out []byte
	for _, x := range b {
		for i := range 8 {
			out = append(out, x>>i&1)
		}
	}
	return out
}

// prefix: the first bits of a code, or all of them, as a number whose highest bit is the first.
type prefix struct{ n, v int }

// book: the codes of symbols, and all that a code begins with.
type book struct {
	symbols map[prefix]int
	begins  map[prefix]bool
	of      map[int]prefix
}

// bookOf: as chapter 5 has codes.
func bookOf(lens []int) book {
	k := book{map[prefix]int{}, map[prefix]bool{}, map[int]prefix{}}
	next := prefix{}
	for n := 1; n <= 15; n++ {
		for symbol, l := range lens {
			if l != n {
				continue
			}
			code := prefix{n, next.v << (n - next.n)}
			next = prefix{n, code.v + 1}
			k.symbols[code], k.of[symbol] = symbol, code
			for c := code; c.n >= 0; c = (prefix{c.n - 1, c.v >> 1}) {
				k.begins[c] = true
			}
		}
	}
	return k
}

// mayBe: of lengths, as chapter 5 has it.
func mayBe(lens []int) bool {
	space, codes, ones := 0, 0, 0
	for _, l := range lens {
		if l > 0 {
			space += 1 << (15 - l)
			codes++
		}
		if l == 1 {
			ones++
		}
	}
	return space == 1<<15 || codes == 0 || codes == 1 && ones == 1
}

// span: the least value of a symbol, and how many more bits.
type span struct{ least, bits int }

// spans: of lengths (from the symbol 257 on) and of distances, by chapter 9's rules.
func spans() (map[int]span, map[int]span) {
	lens, dists := map[int]span{}, map[int]span{}
	v := 3
	for symbol := 257; symbol <= 284; symbol++ {
		n := max(0, (symbol-261)/4)
		lens[symbol] = span{v, n}
		v += 1 << n
	}
	lens[285] = span{258, 0}
	v = 1
	for symbol := range 30 {
		n := max(0, symbol/2-1)
		dists[symbol] = span{v, n}
		v += 1 << n
	}
	return lens, dists
}

// plainLens: as chapter 9 has them.
func plainLens() ([]int, []int) {
	a := slices.Concat(slices.Repeat([]int{8}, 144), slices.Repeat([]int{9}, 112), slices.Repeat([]int{7}, 24), slices.Repeat([]int{8}, 8))
	return a, slices.Repeat([]int{5}, 32)
}

// plainBooks: of the plain lengths.
func plainBooks() (book, book) {
	a, b := plainLens()
	return bookOf(a), bookOf(b)
}

var (
	lenSpans, distSpans  = spans()
	plainLits, plainFars = plainBooks()
	sizeOrder            = []int{16, 17, 18, 0, 8, 7, 9, 6, 10, 5, 11, 4, 12, 3, 13, 2, 14, 1, 15}
)

// lacking: the bits have come to their end.
type lacking struct{}

// thing: what a stream says, as soon as so many of its bits are there: a byte that comes out, its end, or that it is wrong.
type thing struct {
	need int
	b    byte
	ends bool
	err  api.Errno
}

// reading: a stream that is read bit by bit, as the chapter's words have it.
type reading struct {
	bits   []byte
	at     int
	window int
	data   []byte
	things []thing
}

// number: of n bits, the lowest first.
func (r *reading) number(n int) int {
	v := 0
	for i := range n {
		v |= r.bit() << i
	}
	return v
}

func (r *reading) bit() int {
	if r.at == len(r.bits) {
		panic(lacking{})
	}
	r.at++
	return int(r.bits[r.at-1])
}

// symbol: of these codes.
func (r *reading) symbol(k book) int {
	for p := (prefix{}); ; p = (prefix{p.n + 1, p.v<<1 | r.bit()}) {
		if symbol, ok := k.symbols[p]; ok {
			return symbol
		}
		if !k.begins[p] {
			panic(api.ErrSwellForm)
		}
	}
}

// must: else it is wrong.
func must(ok bool, err api.Errno) {
	if !ok {
		panic(err)
	}
}

// out: a byte.
func (r *reading) out(b byte) {
	r.data = append(r.data, b)
	r.things = append(r.things, thing{need: r.at, b: b})
}

func (r *reading) stored() {
	for r.at%8 != 0 {
		r.bit()
	}
	n, turned := r.number(16), r.number(16)
	must(n+turned == 65535 && n&turned == 0, api.ErrSwellForm)
	for range n {
		r.out(byte(r.number(8)))
	}
}

// lens: a block's own, as chapter 8 has them.
func (r *reading) lens() ([]int, []int) {
	a, b, c := 257+r.number(5), 1+r.number(5), 4+r.number(4)
	must(a <= 286 && b <= 30, api.ErrSwellForm)
	sizes := make([]int, 19)
	for i := range c {
		sizes[sizeOrder[i]] = r.number(3)
	}
	must(mayBe(sizes) && slices.Max(sizes) > 0, api.ErrSwellForm)
	k := bookOf(sizes)
	var row []int
	for len(row) < a+b {
		symbol, count := r.symbol(k), 1
		length := symbol
		switch symbol {
		case 16:
			must(len(row) > 0, api.ErrSwellForm)
			length, count = row[len(row)-1], 3+r.number(2)
		case 17:
			length, count = 0, 3+r.number(3)
		case 18:
			length, count = 0, 11+r.number(7)
		}
		must(len(row)+count <= a+b, api.ErrSwellForm)
		row = append(row, slices.Repeat([]int{length}, count)...)
	}
	must(mayBe(row[:a]) && mayBe(row[a:]) && row[256] != 0, api.ErrSwellForm)
	return row[:a], row[a:]
}

func (r *reading) tokens(a, b book) {
	for {
		symbol := r.symbol(a)
		if symbol == 256 {
			return
		}
		if symbol < 256 {
			r.out(byte(symbol))
			continue
		}
		must(symbol < 286, api.ErrSwellForm)
		n := lenSpans[symbol].least + r.number(lenSpans[symbol].bits)
		symbol = r.symbol(b)
		must(symbol < 30, api.ErrSwellForm)
		d := distSpans[symbol].least + r.number(distSpans[symbol].bits)
		must(d <= r.window && d <= len(r.data), api.ErrSwellFar)
		for range n {
			r.out(r.data[len(r.data)-d])
		}
	}
}

func (r *reading) blocks() {
	for last := false; !last; {
		last = r.bit() == 1
		switch r.number(2) {
		case 0:
			r.stored()
		case 1:
			r.tokens(plainLits, plainFars)
		case 2:
			a, b := r.lens()
			r.tokens(bookOf(a), bookOf(b))
		default:
			panic(api.ErrSwellForm)
		}
	}
	r.things = append(r.things, thing{need: r.at, ends: true})
}

// thingsOf: all that bytes say, over a window.
func thingsOf(b []byte, window int) (out []thing) {
	r := &reading{bits: bitsOf(b), window: window}
	defer func() {
		switch why := recover().(type) {
		case nil, lacking:
		case api.Errno:
			r.things = append(r.things, thing{need: r.at, err: why})
		default:
			panic(why)
		}
		out = r.things
	}()
	r.blocks()
	return nil
}

// model: what a Swell must answer over certain bytes.
type model struct {
	things  []thing // that are still to come
	limit   int
	bits    int
	total   int
	done    bool
	refused api.Errno
}

func newModel(b []byte, window, limit int) *model {
	return &model{things: thingsOf(b, window), limit: limit}
}

// step: the chapter's five rules, over n further bytes.
func (m *model) step(n, most int) ([]byte, int, api.Errno) {
	if most < 0 {
		return nil, 0, api.ErrArg
	}
	if m.refused != api.OK {
		return nil, 0, m.refused
	}
	var out []byte
	taken := 0
	for !m.done && len(out) < most {
		if len(m.things) == 0 || m.things[0].need > m.bits {
			if taken == n {
				break
			}
			taken++
			m.bits += 8
			continue
		}
		next := m.things[0]
		m.things = m.things[1:]
		switch {
		case next.ends:
			m.done = true
			continue
		case next.err != api.OK:
			m.refused = next.err
		case m.total+len(out) == m.limit:
			m.refused = api.ErrSwellLong
		}
		if m.refused != api.OK {
			return nil, 0, m.refused
		}
		out = append(out, next.b)
	}
	m.total += len(out)
	return out, taken, api.OK
}

// end: what End must answer.
func (m *model) end() api.Errno {
	if m.refused == api.OK && !m.done {
		return api.ErrSwellEnd
	}
	return m.refused
}

// pair: a Swell, and what it must answer.
type pair struct {
	t    *testing.T
	what string
	s    *swell.Swell
	m    *model
	rest []byte
	room int
}

func newPair(t *testing.T, what string, b []byte, window, limit int) *pair {
	t.Helper()
	s, err := swell.New(window, limit)
	if err != api.OK {
		t.Fatalf("%s: New(%d, %d): %v", what, window, limit, err)
	}
	p := &pair{t: t, what: what, s: s, m: newModel(b, window, limit), rest: b, room: 3835 + window}
	p.check()
	return p
}

// again: Reset, over other bytes.
func (p *pair) again(b []byte, window, limit int) {
	p.t.Helper()
	if err := p.s.Reset(window, limit); err != api.OK {
		p.t.Fatalf("%s: Reset(%d, %d): %v", p.what, window, limit, err)
	}
	p.m, p.rest = newModel(b, window, limit), b
	p.check()
}

// check: what it tells beside Step.
func (p *pair) check() {
	p.t.Helper()
	s, m := p.s, p.m
	if s.Done() != m.done || s.Total() != m.total || s.End() != m.end() || s.Room() != p.room {
		p.t.Fatalf("%s, %d bytes left: Done %v, Total %d, End %v, Room %d; not %v, %d, %v, %d", p.what, len(p.rest), s.Done(), s.Total(), s.End(), s.Room(), m.done, m.total, m.end(), p.room)
	}
}

// step: over the next bytes, at most n of them; did anything happen?
func (p *pair) step(n, most int) ([]byte, bool) {
	p.t.Helper()
	n = min(n, len(p.rest))
	want, wantTaken, wantErr := p.m.step(n, most)
	got, taken, err := p.s.Step(p.rest[:n:n], most)
	if !bytes.Equal(got, want) || taken != wantTaken || err != wantErr {
		p.t.Fatalf("%s, %d bytes left, Step of %d for %d: %x, %d, %v; not %x, %d, %v", p.what, len(p.rest), n, most, got, taken, err, want, wantTaken, wantErr)
	}
	p.rest = p.rest[taken:]
	p.check()
	return got, taken > 0 || len(got) > 0
}

// over: nothing more can come.
func (p *pair) over() bool { return p.m.done || p.m.refused != api.OK }

// through: Steps of so many bytes for so many, up to the end of all; what came out.
func (p *pair) through(n, most func() int) []byte {
	p.t.Helper()
	var out []byte
	for !p.over() {
		asked := most()
		got, moved := p.step(n(), asked)
		out = append(out, got...)
		if !moved && asked > 0 && len(p.rest) == 0 {
			break // it waits for bytes that there are not
		}
	}
	return out
}

// always: one number.
func always(n int) func() int { return func() int { return n } }

// some: any number up to n, often 0 or 1.
func (r *rolls) some(n int) func() int {
	return func() int {
		if r.below(3) == 0 {
			return r.below(2)
		}
		return r.below(n + 1)
	}
}

// everyWay: Steps over bytes, however they are cut and whatever may come out, tell what the chapter says; All tells the same.
func everyWay(t *testing.T, what string, b []byte, window, limit int) {
	t.Helper()
	r := rolls(len(b))
	const all = 1 << 40
	for _, c := range []struct{ n, most func() int }{
		{always(all), always(all)},
		{always(1), always(all)},
		{always(all), always(1)},
		{always(1), always(1)},
		{always(2), always(3)},
		{r.some(3), r.some(4)},
		{r.some(9), r.some(300)},
		{r.some(300), r.some(9)},
	} {
		p := newPair(t, what, b, window, limit)
		out := p.through(c.n, c.most)
		wholes(t, what, p, out, b, window, limit)
	}
}

// wholes: that All of the bytes tells what the Steps have told.
func wholes(t *testing.T, what string, p *pair, out, b []byte, window, limit int) {
	t.Helper()
	want := p.s.End()
	if want == api.OK && len(p.rest) > 0 {
		want = api.ErrSwellForm
	}
	if want != api.OK {
		out = nil
	}
	if got, err := swell.All(b, window, limit); !bytes.Equal(got, out) || err != want {
		t.Fatalf("%s: All: %x, %v; not %x, %v", what, got, err, out, want)
	}
}
