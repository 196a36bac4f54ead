package block_test

import (
	"bytes"
	"compress/flate"
	"math"
	"reflect"
	"slices"
	"strings"
	"testing"

	"sapper/api"
	"sapper/bits"
	"sapper/block"
	"sapper/head"
)

// strip: a row of bits from which parts are taken.
type strip struct {
	row string
	at  int
}

// number: of n bits, the lowest first.
func (s *strip) number(n int) (int, bool) {
	if len(s.row)-s.at < n {
		return 0, false
	}
	v := 0
	for i := range n {
		v |= int(s.row[s.at+i]-'0') << i
	}
	s.at += n
	return v, true
}

// symbol: of these codes; false: there is none.
func (s *strip) symbol(codes map[string]int) (int, bool) {
	for n := 1; n <= 15 && s.at+n <= len(s.row); n++ {
		if symbol, ok := codes[s.row[s.at:s.at+n]]; ok {
			s.at += n
			return symbol, true
		}
	}
	return 0, false
}

// codesOf: the symbols by their codes.
func codesOf(lengths []int) map[string]int {
	out := map[string]int{}
	for symbol, text := range codeTexts(lengths) {
		if text != "" {
			out[text] = symbol
		}
	}
	return out
}

// stored: the tokens of a Stored block, behind its begin.
func (s *strip) stored() ([]api.Token, bool) {
	for s.at%8 != 0 {
		s.at++
	}
	n, _ := s.number(16)
	turned, ok := s.number(16)
	if !ok || n+turned != 65535 || n&turned != 0 {
		return nil, false
	}
	var out []api.Token
	for range n {
		v, ok := s.number(8)
		if !ok {
			return nil, false
		}
		out = append(out, lit(byte(v)))
	}
	return out, true
}

// lens: of an Own block, as chapter 8's reader takes them.
func (s *strip) lens() ([]int, []int, bool) {
	var r bits.Reader
	rest := bytesOf(s.row[s.at:], 0)
	h := head.New()
	for {
		whole, err := h.Step(&r)
		if whole {
			s.at += r.Taken()
			a, b := h.Lens()
			return a, b, s.at <= len(s.row)
		}
		if err != api.OK || len(rest) == 0 {
			return nil, nil, false
		}
		rest = rest[r.Feed(rest[:1]):]
	}
}

// tokens: by these codes, with so many bytes ahead.
func (s *strip) tokens(a, b map[string]int, window, ahead int) ([]api.Token, bool) {
	var out []api.Token
	for {
		symbol, ok := s.symbol(a)
		switch {
		case !ok || symbol > 285:
			return nil, false
		case symbol == 256:
			return out, true
		case symbol < 256:
			out = append(out, lit(byte(symbol)))
			ahead++
			continue
		}
		n, ok1 := s.value(symbol, lenBegins)
		symbol, ok2 := s.symbol(b)
		if !ok1 || !ok2 || symbol > 29 {
			return nil, false
		}
		d, ok := s.value(symbol, distBegins)
		if !ok || d > window || d > ahead {
			return nil, false
		}
		out = append(out, match(n, d))
		ahead += n
	}
}

// value: of a symbol, with its more bits; those of 284 that would be beyond its last length lead to 258.
func (s *strip) value(symbol int, begins map[int]begin) (int, bool) {
	more, ok := s.number(begins[symbol].bits)
	return begins[symbol].least + more, ok
}

// begin: the least value of a symbol, and how many more bits.
type begin struct{ least, bits int }

// beginsOf: by the symbols.
func beginsOf(places map[int]place) map[int]begin {
	out := map[int]begin{}
	for v, p := range places {
		if p.more == 0 {
			out[p.symbol] = begin{v, p.bits}
		}
	}
	return out
}

var (
	lenBegins            = beginsOf(ofLen)
	distBegins           = beginsOf(ofDist)
	plainLits, plainFars = plainCodes()
)

// plainCodes: the symbols by their codes, of the plain ones.
func plainCodes() (map[string]int, map[string]int) {
	a, b := plainLens()
	return codesOf(a), codesOf(b)
}

// blocksOf: what Blocks must tell, as the chapter's words have it.
func blocksOf(b []byte, window int) ([]block.Seg, api.Errno) {
	if window < 1 || window > 32768 {
		return nil, api.ErrArg
	}
	s := &strip{}
	for _, x := range b {
		s.row += number(int(x), 8)
	}
	var out []block.Seg
	for ahead, over := 0, false; !over; {
		from := s.at
		last, _ := s.number(1)
		k, ok := s.number(2)
		if !ok || k == 3 {
			return nil, api.ErrBlockForm
		}
		var l []api.Token
		switch block.Kind(k) {
		case block.Stored:
			l, ok = s.stored()
		case block.Plain:
			l, ok = s.tokens(plainLits, plainFars, window, ahead)
		case block.Own:
			x, y, told := s.lens()
			if !told {
				return nil, api.ErrBlockForm
			}
			l, ok = s.tokens(codesOf(x), codesOf(y), window, ahead)
		}
		if !ok {
			return nil, api.ErrBlockForm
		}
		out = append(out, block.Seg{Kind: block.Kind(k), Last: last == 1, Bits: s.at - from, Tokens: l})
		ahead += size(l)
		over = last == 1
	}
	if (s.at+7)/8 != len(b) {
		return nil, api.ErrBlockForm
	}
	return out, api.OK
}

// same: are these the same blocks?
func same(a, b []block.Seg) bool {
	return slices.EqualFunc(a, b, func(x, y block.Seg) bool {
		return x.Kind == y.Kind && x.Last == y.Last && x.Bits == y.Bits && slices.Equal(x.Tokens, y.Tokens)
	})
}

// told: that Blocks tells just these blocks of a row of bits.
func told(t *testing.T, what, row string, window int, want ...block.Seg) {
	t.Helper()
	for _, left := range []byte{0, 1} {
		if got, err := block.Blocks(bytesOf(row, left), window); err != api.OK || !same(got, want) {
			t.Errorf("%s: %v, %d; not %v", what, got, err, want)
		}
	}
}

// refused: that Blocks takes a row of bits for no stream.
func refused(t *testing.T, what, row string, window int) {
	t.Helper()
	for _, left := range []byte{0, 1} {
		if got, err := block.Blocks(bytesOf(row, left), window); len(got) != 0 || err != api.ErrBlockForm {
			t.Errorf("%s: %v, %d", what, got, err)
		}
	}
}

// written: a block of a kind behind a row of bits.
func written(ahead string, k block.Kind, last bool, data []byte, l ...api.Token) string {
	w := writerOf(ahead)
	if err := block.Write(w, k, last, data, l...); err != api.OK {
		panic(err)
	}
	return textOf(w)
}

// plain: the bits of a Plain block's parts, by their symbols: of lengths (and bytes), of distances.
func plain() (func(symbol int) string, func(symbol int) string) {
	a, b := plainLens()
	x, y := codeTexts(a), codeTexts(b)
	return func(s int) string { return x[s] }, func(s int) string { return y[s] }
}

// looseHead: these lengths, told one by one, as no Write would: each length has a code of four bits.
func looseHead(litLens, distLens []int) string {
	row := number(len(litLens)-257, 5) + number(len(distLens)-1, 5) + number(15, 4)
	for _, symbol := range []int{16, 17, 18, 0, 8, 7, 9, 6, 10, 5, 11, 4, 12, 3, 13, 2, 14, 1, 15} {
		if symbol < 16 {
			row += number(4, 3)
		} else {
			row += number(0, 3)
		}
	}
	for _, l := range append(slices.Clone(litLens), distLens...) {
		for i := 3; i >= 0; i-- {
			row += string(rune('0' + l>>i&1))
		}
	}
	return row
}

// lensWith: so many lengths, all 0 but these.
func lensWith(n int, set map[int]int) []int {
	out := make([]int, n)
	for symbol, l := range set {
		out[symbol] = l
	}
	return out
}

// P9.9

func TestBlocksExamples(t *testing.T) {
	for _, c := range []struct {
		b    string
		want block.Seg
	}{
		{"\x03\x00", block.Seg{Kind: block.Plain, Last: true, Bits: 10}},
		{"\x4b\x04\x00", block.Seg{Kind: block.Plain, Last: true, Bits: 18, Tokens: lits("a")}},
		{"\x01\x01\x00\xfe\xffa", block.Seg{Kind: block.Stored, Last: true, Bits: 48, Tokens: lits("a")}},
		{"\x01\x00\x00\xff\xff", block.Seg{Kind: block.Stored, Last: true, Bits: 40}},
		{"\x03\xfc", block.Seg{Kind: block.Plain, Last: true, Bits: 10}}, // ones in what is left
		{"\xf9\x00\x00\xff\xff", block.Seg{Kind: block.Stored, Last: true, Bits: 40}},
	} {
		for _, window := range []int{1, 2, 100, 32767, 32768} {
			if got, err := block.Blocks([]byte(c.b), window); err != api.OK || !same(got, []block.Seg{c.want}) {
				t.Errorf("%x: %v, %d", c.b, got, err)
			}
		}
	}
	for _, b := range []string{"", "\x03", "\x03\x00\x00", "\x07", "\x07\x00\x00\x00\x00\x00", "\x00", "\x02\x00", "\x01\x00\x00\xff", "\x01\x00\x00\xff\xfe"} {
		if got, err := block.Blocks([]byte(b), 1); len(got) != 0 || err != api.ErrBlockForm {
			t.Errorf("%x: %v, %d", b, got, err)
		}
	}
	if got, err := block.Blocks(nil, 1); len(got) != 0 || err != api.ErrBlockForm {
		t.Errorf("nil: %v, %d", got, err)
	}
}

func TestBlocksWindows(t *testing.T) {
	for _, window := range []int{0, -1, 32769, 65536, math.MinInt, math.MaxInt} {
		for _, b := range []string{"", "\x03\x00", "\x07", "\x4b\x04\x00"} {
			if got, err := block.Blocks([]byte(b), window); len(got) != 0 || err != api.ErrArg {
				t.Errorf("%x over %d: %v, %d", b, window, got, err)
			}
		}
	}
}

// P9.10

// wanted: what Blocks must tell of a block that was written.
func wanted(k block.Kind, last bool, bits int, data []byte, l []api.Token) block.Seg {
	if k == block.Stored {
		l = lits(string(data))
	}
	return block.Seg{Kind: k, Last: last, Bits: bits, Tokens: l}
}

func TestBlocksOfEachKindBehindEachCount(t *testing.T) {
	ahead := grown(nil, joined(lits("a byte and "), many(130, match(258, 7)))...)
	start := written("", block.Stored, false, ahead, lits(string(ahead))...)
	first := wanted(block.Stored, false, len(start), ahead, nil)
	// Plain blocks of bytes of nine bits: each moves what follows by a bit more (10, and 9 for each byte).
	for shift := range 8 {
		high := many(shift, lit(200))
		row := written(start, block.Plain, false, make([]byte, shift), high...)
		second := wanted(block.Plain, false, 10+9*shift, nil, high)
		for name, l := range lists() {
			data := grown(slices.Clone(ahead), append(slices.Clone(high), l...)...)[len(ahead)+shift:]
			for _, k := range kinds {
				all := written(row, k, true, data, l...)
				told(t, name, all, 32768, first, second, wanted(k, true, len(all)-len(row), data, l))
				if n, err := block.Cost(k, len(row)%8, l...); n != len(all)-len(row) || err != api.OK {
					t.Errorf("%s: Cost of %d behind %d: %d, %d", name, k, len(row)%8, n, err)
				}
			}
		}
	}
}

func TestBlocksOfManyWrites(t *testing.T) {
	var r rolls = 23
	for range 300 {
		row, data := "", []byte(nil)
		var want []block.Seg
		far, blocks := 1, 1+r.below(6)
		for i := range blocks {
			l := r.tokens(60, 1+r.below(256), len(data))
			grew := grown(slices.Clone(data), l...)
			k, last := kinds[r.below(3)], i == blocks-1
			all := written(row, k, last, grew[len(data):], l...)
			want = append(want, wanted(k, last, len(all)-len(row), grew[len(data):], l))
			for _, x := range want[i].Tokens {
				far = max(far, x.Dist)
			}
			row, data = all, grew
		}
		told(t, "many", row, far, want...)
		told(t, "many", row, 32768, want...)
		if far > 1 {
			refused(t, "a window one too small", row, far-1)
		}
	}
}

// P9.9: what a stream is not.

// streams: rows of bits that are streams, with all parts that a block may have.
func streams() map[string]string {
	l := []api.Token{lit('a'), lit('b'), match(12, 2), lit(200), match(257, 7), match(258, 1), match(3, 200)}
	data := grown(nil, l...)
	out := map[string]string{
		"none, Stored": written("", block.Stored, true, nil),
		"none, Plain":  written("", block.Plain, true, nil),
		"none, Own":    written("", block.Own, true, nil),
		"Stored":       written("", block.Stored, true, data, l...),
		"Plain":        written("", block.Plain, true, data, l...),
		"Own":          written("", block.Own, true, data, l...),
	}
	for _, a := range kinds {
		for _, b := range kinds {
			for _, c := range kinds {
				row := written("", a, false, data, l...)
				row = written(row, b, false, nil)
				row = written(row, c, true, data, l...)
				out["three of "+number(int(a), 2)+number(int(b), 2)+number(int(c), 2)] = row
			}
		}
	}
	return out
}

func TestBlocksOfStreamsThatEndTooEarly(t *testing.T) {
	for name, row := range streams() {
		b := bytesOf(row, 0)
		if _, err := block.Blocks(b, 300); err != api.OK {
			t.Fatalf("%s: %d", name, err)
		}
		for n := range b {
			if got, err := block.Blocks(b[:n], 300); len(got) != 0 || err != api.ErrBlockForm {
				t.Errorf("%s, %d of %d bytes: %v, %d", name, n, len(b), got, err)
			}
		}
	}
}

func TestBlocksWithBytesBehindTheEnd(t *testing.T) {
	for name, row := range streams() {
		for _, more := range []string{"\x00", "\xff", "\x03", "\x03\x00", "\x01\x00\x00\xff\xff", "0123456789abcdef"} {
			b := append(bytesOf(row, 0), more...)
			if got, err := block.Blocks(b, 300); len(got) != 0 || err != api.ErrBlockForm {
				t.Errorf("%s, and %x: %v, %d", name, more, got, err)
			}
		}
		// A further block, without a gap.
		refused(t, name+", and a last block", written(row, block.Plain, true, []byte("abc"), lits("abc")...), 300)
	}
}

func TestBlocksWithoutALastBlock(t *testing.T) {
	l := lits("abc")
	row := ""
	for i := range 9 {
		row = written(row, kinds[i%3], false, []byte("abc"), l...)
		refused(t, "no last block", row, 10)
	}
	told(t, "one that is", written("", block.Plain, true, []byte("abc"), l...), 10, block.Seg{Kind: block.Plain, Last: true, Bits: 34, Tokens: l})
}

func TestBlocksOfTheKind3(t *testing.T) {
	for _, ahead := range []string{"", written("", block.Plain, false, nil), written("", block.Stored, false, []byte("a"), lit('a'))} {
		for _, begin := range []string{"011", "111"} {
			for _, more := range []string{"", "0000000", strings.Repeat("0", 64), strings.Repeat("1", 64)} {
				refused(t, "the kind 3", ahead+begin+more, 10)
			}
		}
	}
}

// P9.9: Stored blocks.

func TestBlocksOfStoredBits(t *testing.T) {
	for behind := range 8 {
		high := many(behind, lit(200))
		row := written("", block.Plain, false, make([]byte, behind), high...)
		first := wanted(block.Plain, false, len(row), nil, high)
		for _, fill := range []string{"0", "1"} {
			for _, data := range []string{"", "a", "\x00\xff\x00", "what stands here"} {
				stored := storedText(true, len(row), fill, []byte(data))
				told(t, "stored", row+stored, 1, first, wanted(block.Stored, true, len(stored), []byte(data), nil))
			}
		}
	}
}

func TestBlocksOfStoredNumbers(t *testing.T) {
	row := storedText(true, 0, "0", []byte("abcde"))
	for at := 8; at < 40; at++ {
		b := bytesOf(row, 0)
		b[at/8] ^= 1 << (at % 8)
		if got, err := block.Blocks(b, 1); len(got) != 0 || err != api.ErrBlockForm {
			t.Errorf("bit %d turned: %v, %d", at, got, err)
		}
	}
	// Both numbers, so that they agree: the bytes do not.
	for at := 8; at < 24; at++ {
		b := bytesOf(row, 0)
		b[at/8] ^= 1 << (at % 8)
		b[at/8+2] ^= 1 << (at % 8)
		if got, err := block.Blocks(b, 1); len(got) != 0 || err != api.ErrBlockForm {
			t.Errorf("bits %d and %d turned: %v, %d", at, at+16, got, err)
		}
	}
	// The same number twice, and its negative, are not the one with all bits turned.
	for _, second := range []int{5, 65531, 65529, 0, 65535} {
		refused(t, "another second number", "10000000"+number(5, 16)+number(second, 16)+number(0, 40), 1)
	}
}

func TestBlocksOfJustMaxStored(t *testing.T) {
	data := bytes.Repeat([]byte("0123456789abcde"), 4369)
	row := storedText(false, 0, "0", data)
	all := row + storedText(true, 0, "1", data)
	seg := func(last bool) block.Seg { return wanted(block.Stored, last, len(row), data, nil) }
	told(t, "MaxStored", all, 1, seg(false), seg(true))
	refused(t, "a byte less", all[:len(all)-8], 1)
}

// P9.9: matches.

// The symbol 284 with all of its more bits 1 is the length 258.
func TestBlocksOfTheSymbol284(t *testing.T) {
	byLen, byDist := plain()
	for _, c := range []struct{ more, want int }{{0, 227}, {1, 228}, {30, 257}, {31, 258}} {
		row := "110" + byLen('a') + byLen(284) + number(c.more, 5) + byDist(0) + byLen(256)
		told(t, "284", row, 1, block.Seg{Kind: block.Plain, Last: true, Bits: len(row), Tokens: []api.Token{lit('a'), match(c.want, 1)}})
	}
	a, b := lensWith(286, map[int]int{'a': 2, 256: 2, 284: 2, 285: 2}), lensWith(1, map[int]int{0: 1})
	x := codeTexts(a)
	row := "101" + looseHead(a, b) + x['a'] + x[284] + "11111" + "0" + x[285] + "0" + x[256]
	told(t, "284 and 285", row, 1, block.Seg{Kind: block.Own, Last: true, Bits: len(row), Tokens: []api.Token{lit('a'), match(258, 1), match(258, 1)}})
	// All 258 bytes stand ahead of what follows.
	d := ofDist[259]
	row = "110" + byLen('a') + byLen(284) + "11111" + byDist(0) + byLen(257) + byDist(d.symbol) + number(d.more, d.bits) + byLen(256)
	told(t, "behind 284", row, 259, block.Seg{Kind: block.Plain, Last: true, Bits: len(row), Tokens: []api.Token{lit('a'), match(258, 1), match(3, 259)}})
}

func TestBlocksOfSymbolsThatStandForNothing(t *testing.T) {
	byLen, byDist := plain()
	for _, symbol := range []int{286, 287} {
		refused(t, "a length's symbol", "110"+byLen('a')+byLen(symbol)+byDist(0)+byLen(256), 1)
		refused(t, "a length's symbol, at the end", "110"+byLen('a')+byLen(symbol)+byLen(256), 1)
	}
	for _, symbol := range []int{30, 31} {
		refused(t, "a distance's symbol", "110"+byLen('a')+byLen(257)+byDist(symbol)+byLen(256), 32768)
		refused(t, "a distance's symbol, with more bits", "110"+byLen('a')+byLen(257)+byDist(symbol)+number(0, 14)+byLen(256), 32768)
	}
}

func TestBlocksDistanceAndWindow(t *testing.T) {
	data := make([]byte, 40000)
	start := written("", block.Stored, false, data, many(len(data), lit(0))...)
	first := wanted(block.Stored, false, len(start), data, nil)
	for _, d := range []int{1, 2, 4, 5, 6, 100, 256, 24576, 24577, 32767, 32768} {
		for _, k := range kinds[1:] {
			l := []api.Token{match(3, d)}
			row := written(start, k, true, data[:3], l...)
			want := wanted(k, true, len(row)-len(start), nil, l)
			told(t, "just the window", row, d, first, want)
			if d < 32768 {
				told(t, "a greater window", row, d+1, first, want)
			}
			if d > 1 {
				refused(t, "a smaller window", row, d-1)
			}
		}
	}
}

func TestBlocksDistanceAndTheBeginning(t *testing.T) {
	for _, ahead := range []int{0, 1, 2, 4, 5, 100, 32766, 32767} {
		data := make([]byte, ahead)
		for _, a := range kinds {
			start := written("", a, false, data, many(ahead, lit(0))...)
			first := wanted(a, false, len(start), data, many(ahead, lit(0)))
			for _, k := range kinds[1:] {
				l := []api.Token{match(3, ahead+1)}
				refused(t, "one beyond the beginning", start+blockText(k, true, 0, nil, l), 32768)
				// A byte more, ahead of it in the same block.
				l = []api.Token{lit(9), match(3, ahead+1)}
				row := start + blockText(k, true, 0, nil, l)
				told(t, "just the beginning", row, 32768, first, wanted(k, true, len(row)-len(start), nil, l))
			}
		}
	}
}

// What a match makes stands ahead of the next one; so does what blocks ahead of the last one have made.
func TestBlocksDistanceOverBlocks(t *testing.T) {
	steps := [][]api.Token{{lit('a'), match(5, 1)}, nil, {match(3, 6)}, lits("xy"), {match(258, 11), match(3, 269)}}
	for _, a := range kinds[1:] {
		for _, b := range kinds[1:] {
			row, ahead := "", 0
			var want []block.Seg
			for i, l := range steps {
				k := []block.Kind{a, b}[i%2]
				text := blockText(k, i == len(steps)-1, 0, nil, l)
				want = append(want, wanted(k, i == len(steps)-1, len(text), nil, l))
				// One beyond what stands ahead of the block.
				refused(t, "one beyond", row+blockText(k, true, 0, nil, []api.Token{match(3, ahead+1)}), 32768)
				row += text
				ahead += size(l)
			}
			told(t, "over blocks", row, 269, want...)
			refused(t, "a smaller window", row, 268)
		}
	}
}

// P9.9: Own blocks.

func TestBlocksOfLengthsThatNoWriteTells(t *testing.T) {
	fewer, more := map[int]int{'a': 1, 256: 1}, map[int]int{'a': 1, 'z': 2, 256: 3, 257: 4, 285: 4}
	for _, n := range []int{257, 258, 285, 286} {
		for _, m := range []int{1, 2, 30} {
			for _, dist := range []map[int]int{nil, {m - 1: 1}} {
				// Noughts at the ends, codes that are not in use, no code of distances or just one.
				x, y := lensWith(n, fewer), lensWith(m, dist)
				row := "101" + looseHead(x, y) + tokensText(lits("aaa"), x, y)
				told(t, "fewer", row, 1, block.Seg{Kind: block.Own, Last: true, Bits: len(row), Tokens: lits("aaa")})
			}
		}
	}
	x, y := lensWith(286, more), lensWith(30, map[int]int{0: 1, 1: 2, 2: 3, 29: 3})
	l := []api.Token{lit('a'), lit('z'), match(3, 2), match(258, 3), match(258, 1)}
	row := "101" + looseHead(x, y) + tokensText(l, x, y)
	told(t, "more", row, 3, block.Seg{Kind: block.Own, Last: true, Bits: len(row), Tokens: l})
	// All lengths and all distances, of the greatest count there may be.
	x, y = make([]int, 286), make([]int, 30)
	for i := range x {
		x[i] = 8
		if i >= 226 {
			x[i] = 9
		}
	}
	for i := range y {
		y[i] = 5
		if i < 2 {
			y[i] = 4
		}
	}
	row = "101" + looseHead(x, y) + tokensText(l, x, y)
	told(t, "all", row, 3, block.Seg{Kind: block.Own, Last: true, Bits: len(row), Tokens: l})
}

func TestBlocksOfBitsThatAreNoCode(t *testing.T) {
	// Of one symbol alone (the end) the code is 0: a 1 is none.
	end, none := lensWith(257, map[int]int{256: 1}), []int{0}
	row := "101" + looseHead(end, none)
	told(t, "the end", row+"0", 1, block.Seg{Kind: block.Own, Last: true, Bits: len(row) + 1})
	refused(t, "a first bit 1", row+"1", 1)
	refused(t, "a first bit 1", row+"1"+strings.Repeat("0", 40), 1)
	// Of one distance alone likewise.
	x, y := lensWith(258, map[int]int{'a': 1, 256: 2, 257: 2}), []int{1}
	c := codeTexts(x)
	row = "101" + looseHead(x, y) + c['a'] + c[257]
	told(t, "one distance", row+"0"+c[256], 1, block.Seg{Kind: block.Own, Last: true, Bits: len(row) + 3, Tokens: []api.Token{lit('a'), match(3, 1)}})
	refused(t, "a distance's bit 1", row+"1"+c[256], 1)
	refused(t, "a distance's bit 1", row+"1"+strings.Repeat("0", 40), 1)
}

func TestBlocksOfAMatchWithoutDistances(t *testing.T) {
	x := lensWith(258, map[int]int{'a': 1, 256: 2, 257: 2})
	c := codeTexts(x)
	for _, y := range [][]int{{0}, {0, 0}, make([]int, 30)} {
		row := "101" + looseHead(x, y) + c['a']
		told(t, "no match", row+c[256], 1, block.Seg{Kind: block.Own, Last: true, Bits: len(row) + 2, Tokens: lits("a")})
		for _, more := range []string{"", c[256], "0", "1", "0" + c[256], strings.Repeat("0", 40), strings.Repeat("1", 40)} {
			refused(t, "a match", row+c[257]+more, 1)
		}
	}
}

func TestBlocksOfLengthsThatAreRefused(t *testing.T) {
	a := map[int]int{'a': 1, 256: 1}
	for what, row := range map[string]string{
		"too many lengths":      looseHead(lensWith(287, a), []int{0}),
		"too many distances":    looseHead(lensWith(257, a), make([]int, 31)),
		"no end":                looseHead(lensWith(257, map[int]int{'a': 1, 'b': 1}), []int{0}),
		"more codes than are":   looseHead(lensWith(257, map[int]int{'a': 1, 'b': 1, 256: 1}), []int{0}),
		"fewer codes":           looseHead(lensWith(257, map[int]int{'a': 2, 256: 2}), []int{0}),
		"one code of two bits":  looseHead(lensWith(257, map[int]int{256: 2}), []int{0}),
		"no code at all":        looseHead(lensWith(257, nil), []int{0}),
		"fewer distances":       looseHead(lensWith(257, a), []int{2, 2}),
		"more distances":        looseHead(lensWith(257, a), []int{1, 1, 1}),
		"a distance of two":     looseHead(lensWith(257, a), []int{2}),
		"sizes that are none":   number(0, 5) + number(0, 5) + number(0, 4) + number(0, 12),
		"sizes, more than are":  number(0, 5) + number(0, 5) + number(0, 4) + number(1, 3) + number(1, 3) + number(1, 3) + number(0, 3),
		"a copy of none":        number(0, 5) + number(0, 5) + number(0, 4) + number(1, 3) + number(0, 3) + number(1, 3) + number(0, 3) + "0",
		"more noughts than are": number(0, 5) + number(0, 5) + number(0, 4) + number(1, 3) + number(0, 3) + number(1, 3) + number(0, 3) + strings.Repeat("1"+number(127, 7), 3),
	} {
		for _, more := range []string{"", "0", "00000000", strings.Repeat("0", 40), strings.Repeat("1", 40)} {
			refused(t, what, "101"+row+more, 32768)
			refused(t, what+", behind a block", "010"+"0000000"+"101"+row+more, 32768)
		}
	}
}

// How many tokens a block that is read may have, the chapter does not bound.
func TestBlocksOfMoreThanMaxBlockTokens(t *testing.T) {
	byLen, byDist := plain()
	row := "110" + byLen('a') + strings.Repeat(byLen('b'), 65536) + strings.Repeat(byLen(285)+byDist(0), 10) + byLen(256)
	l := joined(lits("a"), many(65536, lit('b')), many(10, match(258, 1)))
	told(t, "many tokens", row, 1, block.Seg{Kind: block.Plain, Last: true, Bits: len(row), Tokens: l})
}

// P9.9: any bits, held against the chapter's words.

func TestBlocksOfBitsTurned(t *testing.T) {
	var r rolls = 29
	good, bad := 0, 0
	for name, row := range streams() {
		for range 60 {
			b := bytesOf(row, byte(r.below(2)))
			for range 1 + r.below(3) {
				at := r.below(len(b) * 8)
				b[at/8] ^= 1 << (at % 8)
			}
			window := 1 + r.below(300)
			want, wantErr := blocksOf(b, window)
			got, err := block.Blocks(b, window)
			if err != wantErr || !same(got, want) {
				t.Fatalf("%s, %x over %d: %v, %d; not %v, %d", name, b, window, got, err, want, wantErr)
			}
			if err == api.OK {
				good++
			} else {
				bad++
			}
		}
	}
	if good < 100 || bad < 100 {
		t.Errorf("%d streams, %d that are none", good, bad)
	}
}

func TestBlocksOfAnyBytes(t *testing.T) {
	var r rolls = 31
	good := 0
	for range 6000 {
		b := make([]byte, r.below(24))
		for i := range b {
			b[i] = byte(r.below(256))
			if r.below(4) == 0 {
				b[i] = []byte{0, 1, 2, 3, 255}[r.below(5)]
			}
		}
		if len(b) > 0 && r.below(2) == 0 {
			b[0] = 3 // a last Plain block
		}
		window := 1 + r.below(20)
		want, wantErr := blocksOf(b, window)
		got, err := block.Blocks(b, window)
		if err != wantErr || !same(got, want) {
			t.Fatalf("%x over %d: %v, %d; not %v, %d", b, window, got, err, want, wantErr)
		}
		if err == api.OK {
			good++
		}
	}
	if good < 10 {
		t.Errorf("only %d were streams", good)
	}
}

// Every row of a few bits.
func TestBlocksOfAllShortBytes(t *testing.T) {
	for v := range 1 << 16 {
		b := []byte{byte(v), byte(v >> 8)}
		want, wantErr := blocksOf(b, 5)
		if got, err := block.Blocks(b, 5); err != wantErr || !same(got, want) {
			t.Fatalf("%x: %v, %d; not %v, %d", b, got, err, want, wantErr)
		}
	}
}

// The streams of others.
func TestBlocksOfTheStreamsOfOthers(t *testing.T) {
	var r rolls = 37
	text := []byte(strings.Repeat("a text that is told over and over again, ", 40))
	mixed := slices.Clone(text)
	for range 30000 {
		if r.below(9) > 0 {
			mixed = append(mixed, mixed[len(mixed)-1-r.below(min(len(mixed), 30000))])
			continue
		}
		mixed = append(mixed, byte(r.below(256)))
	}
	for _, data := range [][]byte{nil, []byte("a"), text, mixed, bytes.Repeat([]byte{0}, 100000)} {
		for level := flate.HuffmanOnly; level <= 9; level++ {
			var out bytes.Buffer
			w, _ := flate.NewWriter(&out, level)
			for at := 0; at < len(data); at += 20000 {
				w.Write(data[at:min(at+20000, len(data))])
				if level%2 == 0 {
					w.Flush()
				}
			}
			w.Close()
			segs, err := block.Blocks(out.Bytes(), 32768)
			if err != api.OK {
				t.Fatalf("level %d: %d", level, err)
			}
			var all []byte
			n := 0
			for i, seg := range segs {
				all = grown(all, seg.Tokens...)
				n += seg.Bits
				if seg.Last != (i == len(segs)-1) {
					t.Errorf("level %d: block %d of %d: %v", level, i, len(segs), seg.Last)
				}
			}
			if !bytes.Equal(all, data) || (n+7)/8 != out.Len() {
				t.Errorf("level %d: %d bytes of %d, %d bits", level, len(all), len(data), n)
			}
		}
	}
}

// R3, R4

func TestBlocksKeepsAndChangesNothing(t *testing.T) {
	for name, row := range streams() {
		room := append(bytesOf(row, 1), "what lies behind"...)
		before := slices.Clone(room)
		b := room[:len(room)-len("what lies behind")]
		got, err := block.Blocks(b, 300)
		want, _ := blocksOf(b, 300)
		if err != api.OK || !bytes.Equal(room, before) {
			t.Fatalf("%s: %d, %x", name, err, room)
		}
		clear(room)
		if !same(got, want) {
			t.Errorf("%s: the answer has changed with the bytes", name)
		}
	}
}

func TestBlocksAnswersAreNew(t *testing.T) {
	for name, row := range streams() {
		b := bytesOf(row, 0)
		got, _ := block.Blocks(b, 300)
		want, _ := blocksOf(b, 300)
		for i := range got {
			// Written over, and appended to: the other lists stay.
			all := got[i].Tokens[:cap(got[i].Tokens)]
			for j := range all {
				all[j] = match(9, 9)
			}
			_ = append(got[i].Tokens, match(8, 8))
			got[i].Tokens, want[i].Tokens = nil, nil
			if !same(got, want) {
				t.Fatalf("%s: lists share memory", name)
			}
		}
		again, err := block.Blocks(b, 300)
		if want, _ = blocksOf(b, 300); err != api.OK || !same(again, want) {
			t.Errorf("%s: behind a change: %v", name, again)
		}
	}
}

func TestBlocksTheSameEachTime(t *testing.T) {
	for name, row := range streams() {
		b := bytesOf(row, 0)
		x, _ := block.Blocks(b, 300)
		y, _ := block.Blocks(append(make([]byte, 0, 5*len(b)), b...), 300)
		if !reflect.DeepEqual(x, y) {
			t.Errorf("%s: %v, %v", name, x, y)
		}
	}
}
