package block_test

import (
	"bytes"
	"compress/flate"
	"fmt"
	"io"
	"math"
	"slices"
	"strings"
	"testing"

	"sapper/api"
	"sapper/bits"
	"sapper/block"
	"sapper/head"
	"sapper/lens"
)

// rolls: numbers that follow no pattern and are the same at each run.
type rolls uint64

// below: a number from 0 on, below n.
func (r *rolls) below(n int) int {
	*r = *r*6364136223846793005 + 1442695040888963407
	return int(uint64(*r>>33) % uint64(n))
}

// lit: a byte.
func lit(b byte) api.Token { return api.Token{Lit: b} }

// lits: bytes.
func lits(s string) []api.Token {
	var out []api.Token
	for i := range len(s) {
		out = append(out, lit(s[i]))
	}
	return out
}

// match: so many bytes so far ahead.
func match(n, dist int) api.Token { return api.Token{Len: n, Dist: dist} }

// many: a token so many times.
func many(n int, t api.Token) []api.Token { return slices.Repeat([]api.Token{t}, n) }

// joined: lists, one behind the other.
func joined(l ...[]api.Token) []api.Token { return slices.Concat(l...) }

// grown: all that the tokens are, behind what is there.
func grown(all []byte, l ...api.Token) []byte {
	for _, t := range l {
		if t.Len == 0 {
			all = append(all, t.Lit)
		}
		for range t.Len {
			all = append(all, all[len(all)-t.Dist])
		}
	}
	return all
}

// size: how many bytes tokens that may be are.
func size(l []api.Token) int {
	n := 0
	for _, t := range l {
		n += max(t.Len, 1)
	}
	return n
}

// tokens: up to n of them, of so many kinds of bytes; each match reaches at most to the beginning, with ahead bytes ahead of all.
func (r *rolls) tokens(n, kinds, ahead int) []api.Token {
	var out []api.Token
	for range r.below(n + 1) {
		reach := min(ahead, 32768)
		if reach == 0 || r.below(3) > 0 {
			out = append(out, lit(byte(r.below(kinds))))
			ahead++
			continue
		}
		t := match(3+r.below(256), 1+r.below(reach))
		if r.below(3) == 0 {
			t = match(3+r.below(8), 1+r.below(min(reach, 8)))
		}
		out = append(out, t)
		ahead += t.Len
	}
	return out
}

// place: a symbol, and which of the values that it stands for.
type place struct{ symbol, bits, more int }

// lenPlaces: of all lengths, by the chapter's rule.
func lenPlaces() map[int]place {
	out := map[int]place{}
	symbol, n := 257, 3
	for ; n <= 10; n++ {
		out[n] = place{symbol, 0, 0}
		symbol++
	}
	for bits := 1; bits <= 5; bits++ {
		for range 4 {
			for more := range 1 << bits {
				out[n] = place{symbol, bits, more}
				n++
			}
			symbol++
		}
	}
	out[258] = place{symbol, 0, 0}
	return out
}

// distPlaces: of all distances, likewise.
func distPlaces() map[int]place {
	out := map[int]place{}
	symbol, d := 0, 1
	for ; d <= 4; d++ {
		out[d] = place{symbol, 0, 0}
		symbol++
	}
	for bits := 1; bits <= 13; bits++ {
		for range 2 {
			for more := range 1 << bits {
				out[d] = place{symbol, bits, more}
				d++
			}
			symbol++
		}
	}
	return out
}

// number: as a text of n bits, the lowest first.
func number(v, n int) string {
	out := make([]byte, n)
	for i := range out {
		out[i] = '0' + byte(v>>i&1)
	}
	return string(out)
}

// codeTexts: each symbol's code as a text, the first bit first; of one without a code no bits.
func codeTexts(lengths []int) []string {
	out := make([]string, len(lengths))
	next := 0
	for l := 1; l <= 15; l++ {
		next <<= 1
		for symbol, have := range lengths {
			if have != l {
				continue
			}
			for i := l - 1; i >= 0; i-- {
				out[symbol] += string(rune('0' + next>>i&1))
			}
			next++
		}
	}
	return out
}

// textOf: a row of bits that was laid down.
func textOf(w *bits.Writer) string {
	b := w.Bytes()
	out := make([]byte, w.Len())
	for i := range out {
		out[i] = '0' + b[i/8]>>(i%8)&1
	}
	return string(out)
}

// bytesOf: a row of bits as bytes, with this bit in what is left of the last one.
func bytesOf(row string, left byte) []byte {
	var out []byte
	for i := range len(row) {
		if i%8 == 0 {
			out = append(out, 0)
		}
		out[i/8] |= (row[i] - '0') << (i % 8)
	}
	for i := len(row); i%8 != 0; i++ {
		out[i/8] |= left << (i % 8)
	}
	return out
}

// writerOf: one that has these bits.
func writerOf(row string) *bits.Writer {
	w := &bits.Writer{}
	for i := range len(row) {
		w.Put(uint64(row[i]-'0'), 1)
	}
	return w
}

var (
	ofLen  = lenPlaces()
	ofDist = distPlaces()
)

// plainLens: as the chapter has them.
func plainLens() ([]int, []int) {
	l, d := make([]int, 288), make([]int, 32)
	for i := range l {
		switch {
		case i <= 143:
			l[i] = 8
		case i <= 255:
			l[i] = 9
		case i <= 279:
			l[i] = 7
		default:
			l[i] = 8
		}
	}
	for i := range d {
		d[i] = 5
	}
	return l, d
}

// ownLens: likewise.
func ownLens(l []api.Token) ([]int, []int) {
	a, b := make([]int, 286), make([]int, 30)
	a[256] = 1
	for _, t := range l {
		if t.Len == 0 {
			a[t.Lit]++
			continue
		}
		a[ofLen[t.Len].symbol]++
		b[ofDist[t.Dist].symbol]++
	}
	x, _ := lens.Lengths(15, a...)
	y, _ := lens.Lengths(15, b...)
	return x, y
}

// tokensText: the bits of tokens, and of the end, by codes of these lengths.
func tokensText(l []api.Token, litLens, distLens []int) string {
	var row strings.Builder
	a, b := codeTexts(litLens), codeTexts(distLens)
	for _, t := range l {
		if t.Len == 0 {
			row.WriteString(a[t.Lit])
			continue
		}
		n, d := ofLen[t.Len], ofDist[t.Dist]
		row.WriteString(a[n.symbol] + number(n.more, n.bits))
		row.WriteString(b[d.symbol] + number(d.more, d.bits))
	}
	row.WriteString(a[256])
	return row.String()
}

// beginText: of a block.
func beginText(k block.Kind, last bool) string {
	if last {
		return "1" + number(int(k), 2)
	}
	return "0" + number(int(k), 2)
}

// storedText: a Stored block behind so many bits, with this bit up to a byte's end.
func storedText(last bool, behind int, fill string, data []byte) string {
	row := beginText(block.Stored, last)
	for (behind+len(row))%8 != 0 {
		row += fill
	}
	row += number(len(data), 16) + number(65535-len(data), 16)
	var all strings.Builder
	all.WriteString(row)
	for _, b := range data {
		all.WriteString(number(int(b), 8))
	}
	return all.String()
}

// blockText: the bits of a block behind so many bits.
func blockText(k block.Kind, last bool, behind int, data []byte, l []api.Token) string {
	switch k {
	case block.Stored:
		return storedText(last, behind, "0", data)
	case block.Plain:
		a, b := plainLens()
		return beginText(k, last) + tokensText(l, a, b)
	}
	a, b := ownLens(l)
	var w bits.Writer
	head.Write(&w, a, b)
	return beginText(k, last) + textOf(&w) + tokensText(l, a, b)
}

// kinds: all of them.
var kinds = []block.Kind{block.Stored, block.Plain, block.Own}

// noKinds: those that are none.
var noKinds = []block.Kind{-1, 3, 4, 256, math.MinInt, math.MaxInt}

// noBehinds: bits that no byte ahead can have in use.
var noBehinds = []int{-1, 8, 9, 16, -8, math.MinInt, math.MaxInt}

// noTokens: those that may not be.
var noTokens = []api.Token{
	{Len: 2, Dist: 1}, {Len: 1, Dist: 1}, {Len: 259, Dist: 1}, {Len: -3, Dist: 1}, {Len: math.MaxInt, Dist: 1}, {Len: math.MinInt, Dist: 1},
	{Len: 3}, {Len: 258}, {Len: 3, Dist: -1}, {Len: 3, Dist: 32769}, {Len: 3, Dist: math.MaxInt}, {Len: 3, Dist: math.MinInt},
	{Dist: 1}, {Lit: 'a', Dist: 1}, {Dist: -1}, {Lit: 'a', Len: 3, Dist: 1}, {Lit: 1, Len: 258, Dist: 32768}, {Lit: 'a', Len: 3},
}

// lists: of tokens, that lead to each of the parts that a block may have. Their distances are not held against what stands ahead.
func lists() map[string][]api.Token {
	out := map[string][]api.Token{
		"none":           nil,
		"a byte":         lits("a"),
		"bytes":          lits("what stands here is bytes alone"),
		"all bytes":      nil,
		"a match":        {match(3, 1)},
		"one distance":   {lit(0), match(258, 1), match(4, 1), match(257, 1)},
		"two distances":  {lit(0), match(10, 1), match(11, 2)},
		"lengths":        nil,
		"distances":      nil,
		"edges":          nil,
		"great and rare": joined(many(4000, lit(7)), lits("abcdefghijklmnop"), many(90, match(12, 5)), []api.Token{match(227, 24577)}),
	}
	for i := range 256 {
		out["all bytes"] = append(out["all bytes"], lit(byte(i)))
	}
	for n := 3; n <= 258; n++ {
		out["lengths"] = append(out["lengths"], match(n, 1+n))
	}
	for i := range 30 {
		least, _, _ := block.DistOf(i)
		out["distances"] = append(out["distances"], match(3, max(least, 1)))
	}
	for _, n := range []int{3, 10, 11, 12, 226, 227, 257, 258} {
		for _, d := range []int{1, 4, 5, 6, 24576, 24577, 32767, 32768} {
			out["edges"] = append(out["edges"], match(n, d))
		}
	}
	return out
}

// P9.1

func TestLenSymbol(t *testing.T) {
	for _, c := range [][4]int{
		{3, 257, 0, 0}, {4, 258, 0, 0}, {10, 264, 0, 0}, {11, 265, 1, 0}, {12, 265, 1, 1}, {13, 266, 1, 0}, {18, 268, 1, 1}, {19, 269, 2, 0},
		{226, 283, 5, 31}, {227, 284, 5, 0}, {257, 284, 5, 30}, {258, 285, 0, 0},
	} {
		if s, n, v, err := block.LenSymbol(c[0]); s != c[1] || n != c[2] || v != c[3] || err != api.OK {
			t.Errorf("LenSymbol(%d): %d, %d, %d, %d", c[0], s, n, v, err)
		}
	}
	for _, n := range []int{2, 259, 1, 0, -1, -3, 260, 1 << 40, math.MinInt, math.MaxInt} {
		if s, b, v, err := block.LenSymbol(n); s != 0 || b != 0 || v != 0 || err != api.ErrArg {
			t.Errorf("LenSymbol(%d): %d, %d, %d, %d", n, s, b, v, err)
		}
	}
}

func TestDistSymbol(t *testing.T) {
	for _, c := range [][4]int{
		{1, 0, 0, 0}, {2, 1, 0, 0}, {4, 3, 0, 0}, {5, 4, 1, 0}, {6, 4, 1, 1}, {7, 5, 1, 0}, {8, 5, 1, 1}, {9, 6, 2, 0},
		{16384, 27, 12, 4095}, {16385, 28, 13, 0}, {24576, 28, 13, 8191}, {24577, 29, 13, 0}, {32767, 29, 13, 8190}, {32768, 29, 13, 8191},
	} {
		if s, n, v, err := block.DistSymbol(c[0]); s != c[1] || n != c[2] || v != c[3] || err != api.OK {
			t.Errorf("DistSymbol(%d): %d, %d, %d, %d", c[0], s, n, v, err)
		}
	}
	for _, d := range []int{0, -1, -5, 32769, 65536, 1 << 40, math.MinInt, math.MaxInt} {
		if s, n, v, err := block.DistSymbol(d); s != 0 || n != 0 || v != 0 || err != api.ErrArg {
			t.Errorf("DistSymbol(%d): %d, %d, %d, %d", d, s, n, v, err)
		}
	}
}

func TestLenOf(t *testing.T) {
	for _, c := range [][3]int{{257, 3, 0}, {264, 10, 0}, {265, 11, 1}, {268, 17, 1}, {269, 19, 2}, {283, 195, 5}, {284, 227, 5}, {285, 258, 0}} {
		if least, n, err := block.LenOf(c[0]); least != c[1] || n != c[2] || err != api.OK {
			t.Errorf("LenOf(%d): %d, %d, %d", c[0], least, n, err)
		}
	}
	for _, s := range []int{256, 286, 287, 255, 0, -1, -257, math.MinInt, math.MaxInt} {
		if least, n, err := block.LenOf(s); least != 0 || n != 0 || err != api.ErrArg {
			t.Errorf("LenOf(%d): %d, %d, %d", s, least, n, err)
		}
	}
}

func TestDistOf(t *testing.T) {
	for _, c := range [][3]int{{0, 1, 0}, {3, 4, 0}, {4, 5, 1}, {5, 7, 1}, {27, 12289, 12}, {28, 16385, 13}, {29, 24577, 13}} {
		if least, n, err := block.DistOf(c[0]); least != c[1] || n != c[2] || err != api.OK {
			t.Errorf("DistOf(%d): %d, %d, %d", c[0], least, n, err)
		}
	}
	for _, s := range []int{30, 31, -1, 257, math.MinInt, math.MaxInt} {
		if least, n, err := block.DistOf(s); least != 0 || n != 0 || err != api.ErrArg {
			t.Errorf("DistOf(%d): %d, %d, %d", s, least, n, err)
		}
	}
}

func TestPlainLens(t *testing.T) {
	wantLit, wantDist := plainLens()
	a, b := block.PlainLens()
	if !slices.Equal(a, wantLit) || !slices.Equal(b, wantDist) || len(a) != 288 || len(b) != 32 {
		t.Fatalf("%v, %v", a, b)
	}
	// What was answered is the caller's, its spare room too.
	clear(a[:cap(a)])
	clear(b[:cap(b)])
	_, _ = append(a, 9), append(b, 9)
	if a, b = block.PlainLens(); !slices.Equal(a, wantLit) || !slices.Equal(b, wantDist) {
		t.Errorf("behind a change: %v, %v", a, b)
	}
}

// P9.1, P9.7

func TestEveryLengthThereAndBack(t *testing.T) {
	seen := map[place]bool{}
	for n := 3; n <= 258; n++ {
		symbol, bits, more, err := block.LenSymbol(n)
		at := place{symbol, bits, more}
		if err != api.OK || at != ofLen[n] || seen[at] {
			t.Errorf("%d: %v, %d; not %v", n, at, err, ofLen[n])
		}
		seen[at] = true
		least, count, err := block.LenOf(symbol)
		if err != api.OK || count != bits || least+more != n || more < 0 || more >= 1<<bits {
			t.Errorf("%d: %v leads to %d, %d, %d", n, at, least, count, err)
		}
	}
}

func TestEveryDistanceThereAndBack(t *testing.T) {
	seen := map[place]bool{}
	for d := 1; d <= 32768; d++ {
		symbol, bits, more, err := block.DistSymbol(d)
		at := place{symbol, bits, more}
		if err != api.OK || at != ofDist[d] || seen[at] {
			t.Fatalf("%d: %v, %d; not %v", d, at, err, ofDist[d])
		}
		seen[at] = true
		least, count, err := block.DistOf(symbol)
		if err != api.OK || count != bits || least+more != d || more < 0 || more >= 1<<bits {
			t.Fatalf("%d: %v leads to %d, %d, %d", d, at, least, count, err)
		}
	}
}

// The symbols' spans stand one behind the other, without a gap.
func TestSymbolsWithoutAGap(t *testing.T) {
	next := 3
	for symbol := 257; symbol <= 285; symbol++ {
		least, n, err := block.LenOf(symbol)
		if symbol == 285 {
			next-- // the one ahead is one shorter than its bits would tell
		}
		if err != api.OK || least != next {
			t.Errorf("%d: begins with %d, not %d (%d)", symbol, least, next, err)
		}
		next = least + 1<<n
	}
	if next != 259 {
		t.Errorf("lengths end ahead of %d", next)
	}
	next = 1
	for symbol := range 30 {
		least, n, err := block.DistOf(symbol)
		if err != api.OK || least != next {
			t.Errorf("%d: begins with %d, not %d (%d)", symbol, least, next, err)
		}
		next = least + 1<<n
	}
	if next != 32769 {
		t.Errorf("distances end ahead of %d", next)
	}
}

// P9.2

func TestOwnLensExample(t *testing.T) {
	a, b, err := block.OwnLens()
	if err != api.OK || len(a) != 286 || len(b) != 30 {
		t.Fatalf("%d, %d, %d", len(a), len(b), err)
	}
	for symbol, l := range a {
		if want := map[bool]int{true: 1}[symbol == 256]; l != want {
			t.Errorf("of %d: %d", symbol, l)
		}
	}
	if slices.Max(b) != 0 {
		t.Errorf("of distances: %v", b)
	}
}

func TestOwnLensOfLists(t *testing.T) {
	for name, l := range lists() {
		wantLit, wantDist := ownLens(l)
		a, b, err := block.OwnLens(l...)
		if err != api.OK || !slices.Equal(a, wantLit) || !slices.Equal(b, wantDist) {
			t.Errorf("%s: %v, %v, %d", name, a, b, err)
		}
	}
	var r rolls = 3
	for range 300 {
		l := r.tokens(200, 1+r.below(256), r.below(40000))
		wantLit, wantDist := ownLens(l)
		a, b, err := block.OwnLens(l...)
		if err != api.OK || !slices.Equal(a, wantLit) || !slices.Equal(b, wantDist) {
			t.Fatalf("%v: %v, %v, %d", l, a, b, err)
		}
	}
}

func TestOwnLensByHand(t *testing.T) {
	a, b, err := block.OwnLens(lit('a'), lit('a'), lit('b'))
	if err != api.OK || a['a'] != 1 || a['b'] != 2 || a[256] != 2 || slices.Max(b) != 0 {
		t.Errorf("a, a, b: %d %d %d, %v, %d", a['a'], a['b'], a[256], b, err)
	}
	// A distance symbol alone has one bit; of a length the symbol counts, not the length.
	a, b, err = block.OwnLens(lit('a'), match(11, 5), match(12, 6))
	if err != api.OK || a['a'] != 2 || a[256] != 2 || a[265] != 1 || b[4] != 1 || slices.Max(b) != 1 {
		t.Errorf("matches: %d %d %d, %v, %d", a['a'], a[256], a[265], b, err)
	}
	// No distance is held against what stands ahead.
	if _, b, err = block.OwnLens(match(258, 32768)); err != api.OK || b[29] != 1 {
		t.Errorf("a first match: %v, %d", b, err)
	}
	// None is above 15 bits, however rare: counts that rise as Fibonacci's (the end's being the first) would lead to more.
	var l []api.Token
	x, y := 1, 2
	for i := range 21 {
		l = append(l, many(x, lit(byte(i)))...)
		x, y = y, x+y
	}
	a, _, err = block.OwnLens(l...)
	if want, _ := ownLens(l); err != api.OK || slices.Max(a) != 15 || !slices.Equal(a, want) {
		t.Errorf("%d tokens: %v, %d", len(l), a, err)
	}
}

// refusal: tokens that may not make up a block, and why.
type refusal struct {
	name string
	l    []api.Token
	err  api.Errno
}

// refusals: of each kind of them.
func refusals() []refusal {
	out := []refusal{
		{"one too many", many(65537, lit('a')), api.ErrBlockLong},
		{"matches, one too many", many(65537, match(3, 1)), api.ErrBlockLong},
		{"too many that may not be", many(65537, match(2, 1)), api.ErrBlockLong},
		{"many too many", many(70000, lit('a')), api.ErrBlockLong},
		{"the last of just as many", append(many(65535, lit('a')), match(2, 1)), api.ErrBlockToken},
		{"the first of just as many", append([]api.Token{match(3, 0)}, many(65535, lit('a'))...), api.ErrBlockToken},
	}
	for _, x := range noTokens {
		name := fmt.Sprint(x)
		out = append(out,
			refusal{name + " alone", []api.Token{x}, api.ErrBlockToken},
			refusal{name + " first", []api.Token{x, lit('b'), lit('c')}, api.ErrBlockToken},
			refusal{name + " last", []api.Token{lit('a'), match(3, 1), x}, api.ErrBlockToken})
	}
	return out
}

func TestOwnLensRefusals(t *testing.T) {
	for _, c := range refusals() {
		if a, b, err := block.OwnLens(c.l...); len(a) != 0 || len(b) != 0 || err != c.err {
			t.Errorf("%s: %v, %v, %d", c.name, a, b, err)
		}
	}
}

func TestJustMaxBlockTokens(t *testing.T) {
	l := many(65536, lit('a'))
	l[65535] = match(258, 32768)
	wantLit, wantDist := ownLens(l)
	a, b, err := block.OwnLens(l...)
	if err != api.OK || !slices.Equal(a, wantLit) || !slices.Equal(b, wantDist) {
		t.Errorf("OwnLens: %v, %v, %d", a, b, err)
	}
	for _, k := range kinds[1:] {
		want := blockText(k, true, 0, nil, l)
		if n, err := block.Cost(k, 0, l...); n != len(want) || err != api.OK {
			t.Errorf("Cost of %d: %d, %d", k, n, err)
		}
		var w bits.Writer
		if err := block.Write(&w, k, true, make([]byte, size(l)), l...); err != api.OK || textOf(&w) != want {
			t.Errorf("Write of %d: %d, %d bits", k, err, w.Len())
		}
	}
	if k, err := block.Pick(0, l...); k != block.Own || err != api.OK {
		t.Errorf("Pick: %d, %d", k, err)
	}
}

// P9.3

func TestCostExamples(t *testing.T) {
	for behind := range 8 {
		if n, err := block.Cost(block.Plain, behind); n != 10 || err != api.OK {
			t.Errorf("Plain, behind %d: %d, %d", behind, n, err)
		}
		want := []int{40, 39, 38, 37, 36, 35, 42, 41}[behind]
		if n, err := block.Cost(block.Stored, behind); n != want || err != api.OK {
			t.Errorf("Stored, behind %d: %d, %d", behind, n, err)
		}
	}
	// Of no tokens: the head of a single length (of 256 noughts two runs), and a bit.
	var w bits.Writer
	a, b := ownLens(nil)
	head.Write(&w, a, b)
	if n, err := block.Cost(block.Own, 0); n != 3+w.Len()+1 || err != api.OK {
		t.Errorf("Own: %d, %d", n, err)
	}
}

// P9.3, P9.5, P9.6

func TestCostAndWriteBehindEachCount(t *testing.T) {
	for name, l := range lists() {
		data := make([]byte, size(l))
		for i := range data {
			data[i] = byte(i * 7)
		}
		for behind := range 16 {
			for _, k := range kinds {
				ahead := "1011001110001011"[:behind]
				want := blockText(k, behind%2 == 0, behind, data, l)
				if n, err := block.Cost(k, behind%8, l...); n != len(want) || err != api.OK {
					t.Errorf("%s: Cost of %d behind %d: %d, %d; not %d", name, k, behind, n, err, len(want))
				}
				w := writerOf(ahead)
				if err := block.Write(w, k, behind%2 == 0, data, l...); err != api.OK || textOf(w) != ahead+want {
					t.Errorf("%s: Write of %d behind %d: %d", name, k, behind, err)
				}
			}
		}
	}
}

func TestCostAndWriteOfManyLists(t *testing.T) {
	var r rolls = 5
	for range 300 {
		l := r.tokens(120, 1+r.below(256), r.below(40000))
		data := make([]byte, size(l))
		for i := range data {
			data[i] = byte(r.below(256))
		}
		behind, k, last := r.below(8), kinds[r.below(3)], r.below(2) == 0
		ahead := number(r.below(256), behind)
		want := blockText(k, last, behind, data, l)
		if n, err := block.Cost(k, behind, l...); n != len(want) || err != api.OK {
			t.Fatalf("%v: Cost of %d behind %d: %d, %d", l, k, behind, n, err)
		}
		w := writerOf(ahead)
		if err := block.Write(w, k, last, data, l...); err != api.OK || textOf(w) != ahead+want {
			t.Fatalf("%v: Write of %d behind %d: %d", l, k, behind, err)
		}
	}
}

func TestCostRefusals(t *testing.T) {
	none := func(what string, want api.Errno, k block.Kind, behind int, l []api.Token) {
		t.Helper()
		if n, err := block.Cost(k, behind, l...); n != 0 || err != want {
			t.Errorf("%s, %d, behind %d: %d, %d", what, k, behind, n, err)
		}
	}
	for _, c := range refusals() {
		for _, k := range kinds {
			none(c.name, c.err, k, 3, c.l)
		}
		none(c.name, api.ErrArg, 3, 3, c.l)
		none(c.name, api.ErrArg, block.Own, 8, c.l)
	}
	for _, k := range noKinds {
		none("no kind", api.ErrArg, k, 0, nil)
		none("no kind", api.ErrArg, k, 8, lits("ab"))
	}
	for _, behind := range noBehinds {
		for _, k := range kinds {
			none("no count", api.ErrArg, k, behind, lits("ab"))
		}
	}
}

// long: tokens of more bytes than a Stored block may have; and of just as many.
func long() ([][]api.Token, [][]api.Token) {
	just := [][]api.Token{
		many(65535, lit('a')),
		append(many(3, lit('a')), many(254, match(258, 1))...),
		many(21845, match(3, 1)),
	}
	more := [][]api.Token{
		many(65536, lit('a')),
		append(many(4, lit('a')), many(254, match(258, 1))...),
		append(many(21845, match(3, 1)), lit('a')),
		many(65536, match(258, 32768)),
	}
	return just, more
}

// P9.3, P9.4, P9.5

func TestStoredOfJustMaxStored(t *testing.T) {
	just, more := long()
	for i, l := range just {
		for behind := range 8 {
			want := 3 + (13-behind)%8 + 32 + 8*65535
			if n, err := block.Cost(block.Stored, behind, l...); n != want || err != api.OK {
				t.Errorf("%d, behind %d: %d, %d; not %d", i, behind, n, err, want)
			}
		}
		data := bytes.Repeat([]byte("0123456789abcde"), 4369)
		w := writerOf("101")
		if err := block.Write(w, block.Stored, false, data, l...); err != api.OK || textOf(w) != "101"+storedText(false, 3, "0", data) {
			t.Errorf("%d: Write: %d, %d bits", i, err, w.Len())
		}
	}
	for i, l := range more {
		if n, err := block.Cost(block.Stored, 0, l...); n != 0 || err != api.ErrBlockLong {
			t.Errorf("%d: Cost: %d, %d", i, n, err)
		}
		w := writerOf("101")
		if err := block.Write(w, block.Stored, false, nil, l...); err != api.ErrBlockLong || textOf(w) != "101" {
			t.Errorf("%d: Write: %d", i, err)
		}
		// The other kinds may have as many.
		for _, k := range kinds[1:] {
			if n, err := block.Cost(k, 0, l...); n == 0 || err != api.OK {
				t.Errorf("%d: Cost of %d: %d, %d", i, k, n, err)
			}
		}
		if k, err := block.Pick(0, l...); k == block.Stored || err != api.OK {
			t.Errorf("%d: Pick: %d, %d", i, k, err)
		}
	}
}

// Bytes that no code presses: where Stored may not be, the cheapest of the others is picked.
func TestPickWithoutStored(t *testing.T) {
	var r rolls = 7
	l := many(65536, lit(0))
	for i := range l {
		l[i] = lit(byte(r.below(256)))
	}
	if k, err := block.Pick(0, l[:65535]...); k != block.Stored || err != api.OK {
		t.Errorf("of 65535: %d, %d", k, err)
	}
	plain, _ := block.Cost(block.Plain, 0, l...)
	own, _ := block.Cost(block.Own, 0, l...)
	if k, err := block.Pick(0, l...); k != block.Own || own >= plain || err != api.OK {
		t.Errorf("of 65536: %d, %d (Plain %d, Own %d)", k, err, plain, own)
	}
}

// P9.4, P9.8

// cheapest: the kind that Pick must tell, and what each costs.
func cheapest(behind int, l []api.Token) (block.Kind, [3]int) {
	best, costs := block.Kind(-1), [3]int{}
	for _, k := range kinds {
		n, err := block.Cost(k, behind, l...)
		costs[k] = n
		if err == api.OK && (best < 0 || n < costs[best]) {
			best = k
		}
	}
	return best, costs
}

func TestPickIsTheCheapest(t *testing.T) {
	picked := [3]int{}
	check := func(l []api.Token) {
		t.Helper()
		for behind := range 8 {
			want, costs := cheapest(behind, l)
			k, err := block.Pick(behind, l...)
			if k != want || err != api.OK {
				t.Fatalf("behind %d: %d, %d; the costs are %v", behind, k, err, costs)
			}
			picked[k]++
			a, b := ownLens(l)
			c, d := plainLens()
			if own, plain := len(tokensText(l, a, b)), len(tokensText(l, c, d)); own > plain {
				t.Fatalf("the tokens take %d bits in an Own block, %d in a Plain one", own, plain)
			}
		}
	}
	for _, l := range lists() {
		check(l)
	}
	var r rolls = 11
	for range 60 {
		check(r.tokens(1+r.below(300), 1+r.below(256), r.below(3)*20000))
	}
	for range 10 {
		l := many(r.below(100), lit(0))
		for i := range l {
			l[i] = lit(byte(144 + r.below(112)))
		}
		check(l)
	}
	if picked[0] == 0 || picked[1] == 0 || picked[2] == 0 {
		t.Errorf("not each kind was picked: %v", picked)
	}
}

// Kinds that cost the same: the first of them.
func TestPickOfEqualCosts(t *testing.T) {
	for _, c := range []struct {
		least, step, n, behind int // so many bytes from the least on, each a step above the one ahead, round and round
		costs                  [3]int
		want                   block.Kind
	}{
		{0, 3, 73, 5, [3]int{619, 619, 828}, block.Stored},
		{0, 8, 73, 5, [3]int{619, 622, 619}, block.Stored},
		{16, 36, 67, 0, [3]int{576, 576, 576}, block.Stored},
		{0, 1, 35, 0, [3]int{320, 290, 290}, block.Plain},
	} {
		var l []api.Token
		for i := range c.n {
			l = append(l, lit(byte(c.least+i*c.step%(256-c.least))))
		}
		if _, costs := cheapest(c.behind, l); costs != c.costs {
			t.Errorf("the costs of %v are %v", c, costs)
		}
		if k, err := block.Pick(c.behind, l...); k != c.want || err != api.OK {
			t.Errorf("%v: %d, %d", c, k, err)
		}
	}
}

func TestPickRefusals(t *testing.T) {
	for _, c := range refusals() {
		if k, err := block.Pick(0, c.l...); k != 0 || err != c.err {
			t.Errorf("%s: %d, %d", c.name, k, err)
		}
		if k, err := block.Pick(8, c.l...); k != 0 || err != api.ErrArg {
			t.Errorf("%s, behind 8: %d, %d", c.name, k, err)
		}
	}
	for _, behind := range noBehinds {
		if k, err := block.Pick(behind, lits("ab")...); k != 0 || err != api.ErrArg {
			t.Errorf("behind %d: %d, %d", behind, k, err)
		}
	}
}

// P9.5

func TestWriteExamples(t *testing.T) {
	for _, c := range []struct {
		k    block.Kind
		data string
		want string
	}{
		{block.Plain, "", "\x03\x00"},
		{block.Plain, "a", "\x4b\x04\x00"},
		{block.Stored, "a", "\x01\x01\x00\xfe\xffa"},
		{block.Stored, "", "\x01\x00\x00\xff\xff"},
	} {
		var w bits.Writer
		if err := block.Write(&w, c.k, true, []byte(c.data), lits(c.data)...); err != api.OK || string(w.Bytes()) != c.want {
			t.Errorf("%d of %q: %x, %d", c.k, c.data, w.Bytes(), err)
		}
	}
	var w bits.Writer
	block.Write(&w, block.Plain, true, nil)
	if w.Len() != 10 {
		t.Errorf("a Plain block without tokens: %d bits", w.Len())
	}
}

// In a Stored block data's bytes stand, whatever the tokens say; in the others they have no part.
func TestWriteOfOtherData(t *testing.T) {
	l := []api.Token{lit('a'), match(3, 1)}
	for _, k := range kinds {
		var same, other bits.Writer
		block.Write(&same, k, true, []byte("aaaa"), l...)
		if err := block.Write(&other, k, true, []byte("wxyz"), l...); err != api.OK {
			t.Errorf("%d: %d", k, err)
		}
		if k == block.Stored {
			if !bytes.HasSuffix(other.Bytes(), []byte("wxyz")) {
				t.Errorf("Stored: %x", other.Bytes())
			}
		} else if !bytes.Equal(same.Bytes(), other.Bytes()) {
			t.Errorf("%d: %x, %x", k, same.Bytes(), other.Bytes())
		}
	}
}

func TestWriteRefusals(t *testing.T) {
	none := func(what string, want api.Errno, k block.Kind, data []byte, l []api.Token) {
		t.Helper()
		if err := block.Write(nil, k, true, data, l...); err != api.ErrMade {
			t.Errorf("%s, %d, without a writer: %d", what, k, err)
		}
		w := writerOf("10110")
		if err := block.Write(w, k, true, data, l...); err != want || textOf(w) != "10110" {
			t.Errorf("%s, %d: %d, %s", what, k, err, textOf(w))
		}
	}
	for _, c := range refusals() {
		for _, k := range kinds {
			none(c.name, c.err, k, nil, c.l) // ahead of data, which is not long enough
		}
		none(c.name, api.ErrArg, 3, nil, c.l)
	}
	for _, k := range noKinds {
		none("no kind", api.ErrArg, k, []byte("ab"), lits("ab"))
	}
	for name, l := range lists() {
		for _, k := range kinds {
			n := size(l)
			none(name+", a byte more", api.ErrArg, k, make([]byte, n+1), l)
			if n > 0 {
				none(name+", a byte less", api.ErrArg, k, make([]byte, n-1), l)
				none(name+", none", api.ErrArg, k, nil, l)
			}
		}
	}
}

func TestWriteWithoutAWriter(t *testing.T) {
	for _, k := range append(noKinds, kinds...) {
		for _, data := range [][]byte{nil, []byte("ab"), []byte("abc")} {
			if err := block.Write(nil, k, false, data, lits("ab")...); err != api.ErrMade {
				t.Errorf("%d: %d", k, err)
			}
		}
	}
}

// What is written is a deflate stream, as others read it.
func TestWriteAsOthersReadIt(t *testing.T) {
	var r rolls = 13
	for range 200 {
		var w bits.Writer
		var all []byte
		blocks := 1 + r.below(5)
		for i := range blocks {
			l := r.tokens(100, 1+r.below(256), len(all))
			grew := grown(slices.Clone(all), l...)
			if err := block.Write(&w, kinds[r.below(3)], i == blocks-1, grew[len(all):], l...); err != api.OK {
				t.Fatal(err)
			}
			all = grew
		}
		got, err := io.ReadAll(flate.NewReader(bytes.NewReader(w.Bytes())))
		if err != nil || !bytes.Equal(got, all) {
			t.Fatalf("%x: %v", w.Bytes(), err)
		}
	}
}

// R3

func TestArgumentsStay(t *testing.T) {
	room := []api.Token{lit('a'), match(3, 1), lit('b'), {Lit: 9, Len: 9, Dist: 9}, {Lit: 8, Len: 8, Dist: 8}}
	l, before := room[:3], slices.Clone(room)
	bytesRoom := []byte("aaaab, and more behind it")
	data, dataBefore := bytesRoom[:5], slices.Clone(bytesRoom)
	for _, k := range kinds {
		block.OwnLens(l...)
		block.Cost(k, 1, l...)
		block.Pick(1, l...)
		var w bits.Writer
		if err := block.Write(&w, k, true, data, l...); err != api.OK {
			t.Fatal(err)
		}
		written := w.Bytes()
		if !slices.Equal(room, before) || !bytes.Equal(bytesRoom, dataBefore) {
			t.Fatalf("%d: %v, %q", k, room, bytesRoom)
		}
		// Nor is anything kept: a change behind the call is not to be seen.
		clear(data)
		clear(room)
		if !bytes.Equal(w.Bytes(), written) {
			t.Errorf("%d: %x is now %x", k, written, w.Bytes())
		}
		copy(room, before)
		copy(bytesRoom, dataBefore)
	}
}

func TestAnswersAreNew(t *testing.T) {
	l := lits("abracadabra")
	wantLit, wantDist := ownLens(l)
	a, b, _ := block.OwnLens(l...)
	clear(a[:cap(a)])
	if !slices.Equal(b, wantDist) {
		t.Errorf("the two lists share memory: %v", b)
	}
	clear(b[:cap(b)])
	_, _ = append(a, 9), append(b, 9)
	if a, b, _ = block.OwnLens(l...); !slices.Equal(a, wantLit) || !slices.Equal(b, wantDist) {
		t.Errorf("behind a change: %v, %v", a, b)
	}
}

// R4

func TestTheSameEachTime(t *testing.T) {
	var r rolls = 17
	for range 20 {
		l := r.tokens(200, 200, 1000)
		roomy := append(make([]api.Token, 0, 3*len(l)+9), l...)
		for _, k := range kinds {
			var x, y bits.Writer
			data := make([]byte, size(l))
			block.Write(&x, k, false, data, l...)
			block.Write(&y, k, false, data, roomy...)
			if !bytes.Equal(x.Bytes(), y.Bytes()) {
				t.Fatalf("%d: %x, %x", k, x.Bytes(), y.Bytes())
			}
		}
	}
}
