package swell_test

import (
	"slices"
	"strings"

	"sapper/api"
	"sapper/bits"
	"sapper/block"
)

// number: n bits, the lowest first.
func number(v, n int) string {
	out := ""
	for i := range n {
		out += string(rune('0' + v>>i&1))
	}
	return out
}

// coded: a symbol's code, the highest bit first.
func (k book) coded(symbol int) string {
	code := k.of[symbol]
	out := ""
	for i := code.n - 1; i >= 0; i-- {
		out += string(rune('0' + code.v>>i&1))
	}
	return out
}

// packed: a row of bits as bytes, what is left of the last one filled up with a bit.
func packed(row string, left byte) []byte {
	row += strings.Repeat(string(rune('0'+left)), (8-len(row)%8)%8)
	out := make([]byte, len(row)/8)
	for i := range row {
		out[i/8] |= (row[i] - '0') << (i % 8)
	}
	return out
}

// begin: of a block.
func begin(last bool, kind int) string {
	if last {
		return "1" + number(kind, 2)
	}
	return "0" + number(kind, 2)
}

// lits: bytes, as tokens.
func lits(b ...byte) []api.Token {
	var out []api.Token
	for _, x := range b {
		out = append(out, api.Token{Lit: x})
	}
	return out
}

// match: so many bytes so far ahead.
func match(n, dist int) api.Token { return api.Token{Len: n, Dist: dist} }

// grown: all that the tokens are, behind what is there.
func grown(all []byte, l ...api.Token) []byte {
	all = slices.Clone(all)
	for _, t := range l {
		if t.Len == 0 {
			all = append(all, t.Lit)
		}
		for range t.Len {
			all = append(all, all[len(all)-t.Dist])
		}
	}
	return all
}

// symbolOf: which one stands for a value, the last that does, and its more bits.
func symbolOf(spans map[int]span, v int) (int, string) {
	best := -1
	for symbol, s := range spans {
		if v >= s.least && v < s.least+1<<s.bits {
			best = max(best, symbol)
		}
	}
	return best, number(v-spans[best].least, spans[best].bits)
}

// tokenRow: tokens by these codes, without the block's end.
func tokenRow(a, b book, l ...api.Token) string {
	out := ""
	for _, t := range l {
		if t.Len == 0 {
			out += a.coded(int(t.Lit))
			continue
		}
		symbol, more := symbolOf(lenSpans, t.Len)
		out += a.coded(symbol) + more
		symbol, more = symbolOf(distSpans, t.Dist)
		out += b.coded(symbol) + more
	}
	return out
}

// plainRow: tokens of a Plain block, without its begin and its end.
func plainRow(l ...api.Token) string { return tokenRow(plainLits, plainFars, l...) }

// plainEnd: of a Plain block.
const plainEnd = "0000000"

// plainBlock: whole.
func plainBlock(last bool, l ...api.Token) string { return begin(last, 1) + plainRow(l...) + plainEnd }

// storedBlock: whole, behind so many bits, with these bits up to a byte's end.
func storedBlock(behind int, last bool, left byte, data ...byte) string {
	row := begin(last, 0)
	for (behind+len(row))%8 != 0 {
		row += string(rune('0' + left))
	}
	row += number(len(data), 16) + number(^len(data)&65535, 16)
	for _, b := range data {
		row += number(int(b), 8)
	}
	return row
}

// looseHead: an Own block's lengths one by one, as no writer would tell them: each has a code of four bits.
func looseHead(lit, dist []int) string {
	row := number(len(lit)-257, 5) + number(len(dist)-1, 5) + number(15, 4)
	for _, symbol := range sizeOrder {
		if symbol < 16 {
			row += number(4, 3)
		} else {
			row += number(0, 3)
		}
	}
	for _, l := range append(slices.Clone(lit), dist...) {
		for i := 3; i >= 0; i-- {
			row += string(rune('0' + l>>i&1))
		}
	}
	return row
}

// lensWith: so many lengths, all 0 but these.
func lensWith(n int, set map[int]int) []int {
	out := make([]int, n)
	for symbol, l := range set {
		out[symbol] = l
	}
	return out
}

// moved: a row of bits that the next one stands behind so many bits of a byte, and the bytes that come out of it: a Plain block of bytes of nine bits.
func moved(shift int) (string, []byte) {
	for n := range 8 {
		if (10+9*n)%8 == shift {
			data := slices.Repeat([]byte{200}, n)
			return plainBlock(false, lits(data...)...), data
		}
	}
	panic("no such count")
}

// written: a block of a kind behind a row of bits.
func written(ahead string, k block.Kind, last bool, data []byte, l ...api.Token) string {
	var w bits.Writer
	for _, bit := range ahead {
		w.Put(uint64(bit-'0'), 1)
	}
	if err := block.Write(&w, k, last, data, l...); err != api.OK {
		panic(err)
	}
	row := bitsOf(w.Bytes())
	for i := range row {
		row[i] += '0'
	}
	return string(row[:w.Len()])
}

// kinds: of blocks.
var kinds = []block.Kind{block.Stored, block.Plain, block.Own}

// ordinary: tokens with all parts that a block may have: bytes of eight and nine bits, lengths and distances with and without more bits, a match over itself, the greatest length.
func ordinary() []api.Token {
	return slices.Concat(lits('a', 'b'), []api.Token{match(12, 2)}, lits(200), []api.Token{match(257, 7), match(258, 1), match(3, 200)}, lits('c'))
}

// streams: rows of bits that are streams, by what they are.
func streams() map[string]string {
	l := ordinary()
	data := grown(nil, l...)
	out := map[string]string{}
	for _, a := range kinds {
		name := number(int(a), 2)
		out["none, "+name] = written("", a, true, nil)
		out["alone, "+name] = written("", a, true, data, l...)
		for _, b := range kinds {
			row := written("", a, false, data, l...)
			out["two, "+name+number(int(b), 2)] = written(row, b, true, data, l...)
			for _, c := range kinds {
				row := written(row, b, false, nil)
				out["three, "+name+number(int(b), 2)+number(int(c), 2)] = written(row, c, true, data, l...)
			}
		}
	}
	return out
}
