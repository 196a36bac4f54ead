package swell_test

import (
	"bytes"
	"compress/flate"
	"io"
	"slices"
	"strings"
	"testing"

	"sapper/api"
	"sapper/block"
	"sapper/lz"
	"sapper/press"
	"sapper/swell"
)

// wrongAtLast: that a row of bits is wrong as soon as its last one is there, and not before, behind each count of bits; build is told how many bits and bytes stand ahead.
func wrongAtLast(t *testing.T, what string, want api.Errno, window int, build func(behind, ahead int) string) {
	t.Helper()
	for shift := range 8 {
		first, ahead := moved(shift)
		row := first + build(len(first), len(ahead))
		for _, left := range []byte{0, 1} {
			b := packed(row, left)
			everyWay(t, what, b, window, 1<<28)
			everyWay(t, what, append(b, 0, 0, 0), window, 1<<28)
			s := made(t, window, 1<<28)
			for i := range b {
				err := api.OK
				if i == len(b)-1 {
					err = want
				}
				if _, n, got := s.Step(b[i:i+1], plenty); got != err || n != 1 && err == api.OK {
					t.Fatalf("%s behind %d bits: byte %d of %d: %d, %v", what, shift, i, len(b), n, got)
				}
			}
			if _, err := swell.All(b, window, 1<<28); err != want {
				t.Errorf("%s behind %d bits: All: %v", what, shift, err)
			}
			if _, err := swell.All(b[:len(b)-1], window, 1<<28); err != api.ErrSwellEnd {
				t.Errorf("%s behind %d bits, a byte less: All: %v", what, shift, err)
			}
		}
	}
}

// fixed: a row of bits, whatever stands ahead.
func fixed(row string) func(int, int) string { return func(int, int) string { return row } }

// P11.2, Streams: not a stream

func TestKind3(t *testing.T) {
	wrongAtLast(t, "kind 3", api.ErrSwellForm, 1, fixed("011"))
	wrongAtLast(t, "kind 3, the last block", api.ErrSwellForm, 1, fixed("111"))
	wrongAtLast(t, "kind 3 behind a block", api.ErrSwellForm, 1, fixed(plainBlock(false)+"111"))
}

func TestStoredNumbers(t *testing.T) {
	for _, size := range []int{0, 1, 2, 255, 256, 65535} {
		for _, turned := range []int{1, 2, 256, 1 << 15, 65535} {
			wrongAtLast(t, "stored numbers", api.ErrSwellForm, 1, func(behind, _ int) string {
				row := storedBlock(behind, true, 1)
				return row[:len(row)-32] + number(size, 16) + number(^size&65535^turned, 16)
			})
		}
	}
}

// runsHead: the counts, and the sizes of the runs' symbols, all in their order.
func runsHead(a, b int, sizes map[int]int) string {
	row := number(a-257, 5) + number(b-1, 5) + number(15, 4)
	for _, symbol := range sizeOrder {
		row += number(sizes[symbol], 3)
	}
	return row
}

func TestOwnLengthsThatAreRefused(t *testing.T) {
	none, runs := lensWith(257, map[int]int{256: 1}), map[int]int{0: 2, 1: 2, 16: 2, 18: 2}
	k := bookOf(lensWith(19, runs))
	many := k.coded(18) + number(127, 7)
	for what, row := range map[string]string{
		"287 lengths":                    number(30, 5) + number(0, 5) + number(0, 4),
		"288 lengths":                    number(31, 5) + number(31, 5) + number(15, 4),
		"31 distances":                   number(0, 5) + number(30, 5) + number(0, 4),
		"32 distances":                   number(29, 5) + number(31, 5) + number(15, 4),
		"no sizes":                       runsHead(257, 1, nil),
		"four sizes, all 0":              number(0, 14) + number(0, 12),
		"too many sizes":                 runsHead(257, 1, map[int]int{0: 1, 1: 1, 2: 1}),
		"too few sizes":                  runsHead(257, 1, map[int]int{0: 1, 1: 2}),
		"one size of two bits":           runsHead(257, 1, map[int]int{0: 2}),
		"no code":                        runsHead(257, 1, map[int]int{1: 1}) + "1",
		"no code behind some":            runsHead(257, 1, map[int]int{1: 1}) + "0001",
		"nothing ahead":                  runsHead(257, 1, runs) + k.coded(16),
		"a run too long":                 runsHead(257, 1, runs) + many + many,
		"a run one too long":             runsHead(257, 1, runs) + many + k.coded(18) + number(120-11+1, 7),
		"no end":                         looseHead(lensWith(257, map[int]int{0: 1, 1: 1}), []int{0}),
		"no code at all":                 looseHead(lensWith(257, nil), []int{0}),
		"too many codes":                 looseHead(lensWith(257, map[int]int{0: 1, 1: 1, 256: 1}), []int{0}),
		"too few codes":                  looseHead(lensWith(257, map[int]int{0: 2, 256: 1}), []int{0}),
		"one code of two bits":           looseHead(lensWith(257, map[int]int{256: 2}), []int{0}),
		"too many distances":             looseHead(none, []int{1, 1, 1}),
		"too few distances":              looseHead(none, []int{2, 1}),
		"one distance of two bits":       looseHead(none, []int{2}),
		"15 bits, too few":               looseHead(lensWith(286, map[int]int{256: 15}), lensWith(30, nil)),
		"whole with the distances alone": looseHead(lensWith(257, map[int]int{0: 1, 256: 2}), []int{2}),
	} {
		for _, last := range []bool{false, true} {
			wrongAtLast(t, what, api.ErrSwellForm, 100, fixed(begin(last, 2)+row))
		}
	}
}

// ownBlock: a last one's begin and head, and the codes.
func ownBlock(lit, dist []int) (string, book, book) {
	return begin(true, 2) + looseHead(lit, dist), bookOf(lit), bookOf(dist)
}

func TestBitsThatBeginNoCode(t *testing.T) {
	// The end alone has a code, which is 0.
	row, _, _ := ownBlock(lensWith(257, map[int]int{256: 1}), []int{0})
	wrongAtLast(t, "one code", api.ErrSwellForm, 100, fixed(row+"1"))
	// A distance alone has one.
	row, a, b := ownBlock(lensWith(286, map[int]int{'a': 2, 257: 2, 265: 2, 256: 2}), []int{1})
	ahead := row + strings.Repeat(a.coded('a'), 9)
	wrongAtLast(t, "one distance", api.ErrSwellForm, 100, fixed(ahead+a.coded(257)+"1"))
	wrongAtLast(t, "one distance, behind more bits", api.ErrSwellForm, 100, fixed(ahead+a.coded(265)+"1"+"1"))
	wrongAtLast(t, "one distance, behind others", api.ErrSwellForm, 100, fixed(ahead+a.coded(257)+b.coded(0)+a.coded(257)+"1"))
	// No distance has a code: whatever comes is none, as soon as the length is there.
	row, a, _ = ownBlock(lensWith(286, map[int]int{'a': 2, 257: 2, 265: 2, 256: 2}), []int{0, 0, 0})
	ahead = row + strings.Repeat(a.coded('a'), 9)
	wrongAtLast(t, "no distances", api.ErrSwellForm, 100, fixed(ahead+a.coded(257)))
	wrongAtLast(t, "no distances, a length with more bits", api.ErrSwellForm, 100, fixed(ahead+a.coded(265)+"0"))
	// Without a match such a block is one.
	everyWay(t, "no distances", packed(ahead+a.coded(256), 1), 100, 100)
	if got, err := swell.All(packed(ahead+a.coded(256), 1), 100, 9); string(got) != "aaaaaaaaa" || err != api.OK {
		t.Errorf("no distances: %q, %v", got, err)
	}
}

// Codes of all lengths up to 15 bits.
func TestLongCodes(t *testing.T) {
	lit, dist := make([]int, 286), make([]int, 30)
	for i := range 14 {
		lit['a'+i], dist[i] = i+1, i+1
	}
	lit[256], lit[257] = 15, 15
	dist[14], dist[15] = 15, 15
	row, a, b := ownBlock(lit, dist)
	l := lits([]byte("abcdefghijklmnnmlkjihgfedcba")...)
	for d := 1; d <= 28; d++ {
		l = append(l, match(3, d))
	}
	row += tokenRow(a, b, l...) + a.coded(256)
	for _, left := range []byte{0, 1} {
		everyWay(t, "long codes", packed(row, left), 28, 1000)
		if got, err := swell.All(packed(row, left), 28, 1000); err != api.OK || !bytes.Equal(got, grown(nil, l...)) {
			t.Errorf("%q, %v", got, err)
		}
	}
}

func TestSymbolsThatStandForNothing(t *testing.T) {
	for _, symbol := range []int{286, 287} {
		wrongAtLast(t, "lengths", api.ErrSwellForm, 100, fixed(begin(true, 1)+plainLits.coded(symbol)))
		wrongAtLast(t, "lengths behind bytes", api.ErrSwellForm, 100, fixed(begin(false, 1)+plainRow(lits('a', 200, 'b')...)+plainLits.coded(symbol)))
	}
	for _, symbol := range []int{30, 31} {
		for _, n := range []int{3, 12, 257, 258} {
			length, more := symbolOf(lenSpans, n)
			wrongAtLast(t, "distances", api.ErrSwellForm, 100, fixed(begin(true, 1)+plainLits.coded(length)+more+plainFars.coded(symbol)))
		}
	}
}

// Streams: too far

func TestBeyondTheBeginning(t *testing.T) {
	for _, more := range []int{1, 2, 5, 100, 3000, 32768} {
		for _, n := range []int{3, 258} {
			wrongAtLast(t, "beyond the beginning", api.ErrSwellFar, 32768, func(_, ahead int) string {
				return begin(true, 1) + plainRow(match(n, min(ahead+more, 32768)))
			})
		}
	}
	// Of an Own block, and behind a Stored one.
	wrongAtLast(t, "of an Own block", api.ErrSwellFar, 32768, func(_, ahead int) string {
		row, a, b := ownBlock(lensWith(286, map[int]int{257: 1, 256: 1}), lensWith(30, map[int]int{3: 1, 8: 1}))
		return row + tokenRow(a, b, match(3, 20))
	})
	wrongAtLast(t, "behind a Stored block", api.ErrSwellFar, 32768, func(behind, ahead int) string {
		return storedBlock(behind, false, 1, 'a', 'b', 'c') + begin(true, 1) + plainRow(match(3, ahead+4))
	})
}

func TestBeyondTheWindow(t *testing.T) {
	r := rolls(61)
	for _, window := range []int{1, 2, 3, 4, 5, 100, 256, 257, 500} {
		data := lits(r.bytes(window+1, 256)...)
		wrongAtLast(t, "beyond the window", api.ErrSwellFar, window, fixed(begin(true, 1)+plainRow(data...)+plainRow(match(4, window+1))))
		wrongAtLast(t, "far beyond the window", api.ErrSwellFar, window, fixed(begin(true, 1)+plainRow(data...)+plainRow(match(4, 32768))))
	}
}

// A distance of just the window, of just as many bytes as have come out, into a block ahead.
func TestAsFarAsMayBe(t *testing.T) {
	r := rolls(62)
	for _, k := range kinds {
		for _, n := range []int{1, 2, 3, 4, 5, 100, 256, 257, 600} {
			data := r.bytes(n, 256)
			for _, token := range []api.Token{match(3, n), match(258, n)} {
				// In the same block, and in the next one.
				want := grown(data, token)
				both := append(lits(data...), token)
				rows := []string{
					written("", k, true, want, both...),
					plainBlock(false, lits(data...)...) + begin(true, 1) + plainRow(token) + plainEnd,
					written(plainBlock(false, lits(data...)...), k, true, want[n:], token),
					written(storedBlock(0, false, 0, data...), k, true, want[n:], token),
				}
				for i, row := range rows {
					b := packed(row, 0)
					everyWay(t, "as far as may be", b, n, len(want))
					if got, err := swell.All(b, n, len(want)); err != api.OK || !bytes.Equal(got, want) {
						t.Errorf("%d back, kind %d, row %d: %v", n, k, i, err)
					}
					// A Stored block has no distances.
					if _, err := swell.All(b, max(1, n-1), len(want)); n > 1 && err != api.ErrSwellFar && !(k == block.Stored && i != 1) {
						t.Errorf("%d back over one less, kind %d, row %d: %v", n, k, i, err)
					}
				}
			}
		}
	}
}

// The window lasts: behind many bytes it is still as wide, and no wider.
func TestWindowsBehindManyBytes(t *testing.T) {
	r := rolls(63)
	for _, window := range []int{1, 7, 100, 300} {
		data := r.bytes(window*3+5, 256)
		row := plainBlock(false, lits(data...)...) + begin(true, 1) + plainRow(match(258, window), match(5, window))
		l := slices.Concat(lits(data...), []api.Token{match(258, window), match(5, window)})
		everyWay(t, "within", packed(row+plainEnd, 0), window, 5000)
		if got, err := swell.All(packed(row+plainEnd, 0), window, 5000); err != api.OK || !bytes.Equal(got, grown(nil, l...)) {
			t.Errorf("window %d: %v", window, err)
		}
		everyWay(t, "beyond", packed(row+plainRow(match(3, window+1)), 0), window, 5000)
		if _, err := swell.All(packed(row+plainRow(match(3, window+1)), 0), window, 5000); err != api.ErrSwellFar {
			t.Errorf("window %d: %v", window, err)
		}
	}
}

// Which error comes first

func TestWhichErrorComesFirst(t *testing.T) {
	full := begin(false, 1) + plainRow(lits('a', 'b', 'c')...) // with the cap 3
	next := full + plainEnd
	for what, c := range map[string]struct {
		row string
		err api.Errno
	}{
		"a byte, and then kind 3":                     {full + plainRow(lits('d')...) + plainEnd + "111", api.ErrSwellLong},
		"kind 3, and then whatever":                   {next + "111" + plainRow(lits('d')...), api.ErrSwellForm},
		"a symbol for nothing":                        {full + plainLits.coded(286) + plainRow(lits('d')...), api.ErrSwellForm},
		"a distance for nothing":                      {full + plainLits.coded(257) + plainFars.coded(30), api.ErrSwellForm},
		"a distance too far, of bytes beyond the cap": {full + plainRow(match(3, 4)), api.ErrSwellFar},
		"a distance beyond the window":                {full + plainRow(match(3, 101)), api.ErrSwellFar},
		"a match beyond the cap, and one too far":     {full + plainRow(match(3, 3), match(3, 100)), api.ErrSwellLong},
		"a match too far, and a byte":                 {full + plainRow(match(3, 4)) + plainRow(lits('d')...), api.ErrSwellFar},
		"stored numbers that do not fit, of many":     {next + storedRow(len(next), 5, 5), api.ErrSwellForm},
		"many stored bytes":                           {next + storedBlock(len(next), true, 0, 1, 2, 3, 4), api.ErrSwellLong},
		"own lengths that are refused":                {next + begin(true, 2) + number(30, 14), api.ErrSwellForm},
		"a match with no distances":                   {next + noDistances(), api.ErrSwellForm},
	} {
		b := packed(c.row, 0)
		everyWay(t, what, b, 100, 3)
		if got, err := swell.All(b, 100, 3); len(got) != 0 || err != c.err {
			t.Errorf("%s: %q, %v, not %v", what, got, err, c.err)
		}
		// The bytes ahead of it can be had.
		s := made(t, 100, 3)
		got, n, err := s.Step(b, 3)
		if string(got) != "abc" || err != api.OK {
			t.Errorf("%s: %q, %v", what, got, err)
		}
		answers(t, what, s, string(b[n:]), plenty, "", 0, c.err)
		stands(t, what, s, false, 3, c.err)
	}
}

// storedRow: a Stored block's begin with these two numbers.
func storedRow(behind, size, turned int) string {
	row := storedBlock(behind, true, 0)
	return row[:len(row)-32] + number(size, 16) + number(turned, 16)
}

// noDistances: an Own block with a match that its code of distances has none for.
func noDistances() string {
	row, a, _ := ownBlock(lensWith(286, map[int]int{257: 1, 256: 1}), []int{0})
	return row + a.coded(257)
}

// P11.7: streams that press makes

// texts: bytes of many kinds.
func texts() [][]byte {
	r := rolls(64)
	out := [][]byte{
		nil,
		[]byte("a"),
		{0xff},
		[]byte("abcabcabc"),
		bytes.Repeat([]byte("a"), 700),
		bytes.Repeat([]byte("the quick brown fox "), 40),
		r.bytes(600, 256),
		r.bytes(600, 2),
		r.bytes(600, 20),
	}
	return append(out, slices.Concat(out...))
}

// presses: ways to press.
func presses() []api.Press {
	var out []api.Press
	for _, window := range []int{1, 2, 30, 100, 32768} {
		for _, chain := range []int{0, 1, 20} {
			for _, n := range []int{1, 3, 50, 65536} {
				out = append(out, api.Press{Look: api.Look{Window: window, Chain: chain, Lazy: n == 50}, Block: n})
			}
		}
	}
	return out
}

func TestPressedBytesComeBack(t *testing.T) {
	r := rolls(65)
	for _, text := range texts() {
		for _, o := range presses() {
			data := text[:min(len(text), 60*o.Block)]
			b, err := press.Press(data, o)
			if err != api.OK {
				t.Fatal(err)
			}
			if got, err := swell.All(b, o.Look.Window, len(data)); err != api.OK || !bytes.Equal(got, data) {
				t.Fatalf("%+v of %q: %q, %v", o, data, got, err)
			}
			if _, err := swell.All(b, o.Look.Window, len(data)-1); len(data) > 0 && err != api.ErrSwellLong {
				t.Fatalf("%+v of %q, a cap one too small: %v", o, data, err)
			}
			for range 2 {
				s := made(t, o.Look.Window, len(data))
				if got := inPieces(t, s, b, r.some(40), r.some(90)); !bytes.Equal(got, data) {
					t.Fatalf("%+v of %q in pieces: %q", o, data, got)
				}
				stands(t, "pressed", s, true, len(data), api.OK)
			}
		}
		for _, o := range presses() {
			data := text[:min(len(text), 10*o.Block)]
			b, _, _ := press.Squeeze(data, o, 2)
			if got, err := swell.All(b, o.Look.Window, len(data)); err != api.OK || !bytes.Equal(got, data) {
				t.Fatalf("%+v of %q squeezed: %q, %v", o, data, got, err)
			}
		}
	}
}

// inPieces: what comes out of a stream, in Steps of so many bytes for so many.
func inPieces(t *testing.T, s *swell.Swell, b []byte, n, most func() int) []byte {
	t.Helper()
	var out []byte
	for !s.Done() {
		got, taken, err := s.Step(b[:min(len(b), n())], most())
		if err != api.OK {
			t.Fatal(err)
		}
		out, b = append(out, got...), b[taken:]
	}
	if len(b) > 0 {
		t.Fatalf("%d bytes are left", len(b))
	}
	return out
}

func TestMuchPressed(t *testing.T) {
	r := rolls(66)
	data := slices.Concat(r.bytes(70000, 256), r.bytes(70000, 3), bytes.Repeat(r.bytes(900, 256), 80), make([]byte, 70000))
	for _, o := range []api.Press{
		{Look: api.Look{Window: 32768, Chain: 8}, Block: 65536},
		{Look: api.Look{Window: 1000, Chain: 8, Lazy: true}, Block: 700},
		{Look: api.Look{Window: 1, Chain: 0}, Block: 65535},
	} {
		b, _ := press.Press(data, o)
		s := made(t, o.Look.Window, len(data))
		if got := inPieces(t, s, b, r.some(9000), r.some(9000)); !bytes.Equal(got, data) {
			t.Errorf("%+v: other bytes", o)
		}
		if got, err := swell.All(b, o.Look.Window, len(data)); err != api.OK || !bytes.Equal(got, data) {
			t.Errorf("%+v: All: %v", o, err)
		}
	}
}

// Streams that chapter 9 writes, of any tokens.
func TestWrittenBlocks(t *testing.T) {
	r := rolls(67)
	for range 150 {
		row, data := "", []byte(nil)
		far, blocks := 1, 1+r.below(5)
		for i := range blocks {
			l := r.tokens(50, len(data))
			grew := grown(data, l...)
			k := kinds[r.below(3)]
			row = written(row, k, i == blocks-1, grew[len(data):], l...)
			for _, x := range l {
				if k != block.Stored {
					far = max(far, x.Dist)
				}
			}
			data = grew
		}
		b := packed(row, 1)
		everyWay(t, "written", b, far, len(data))
		if got, err := swell.All(b, far, len(data)); err != api.OK || !bytes.Equal(got, data) {
			t.Errorf("%x: %v", b, err)
		}
		if _, err := swell.All(b, max(1, far-1), len(data)); far > 1 && err != api.ErrSwellFar {
			t.Errorf("%x, a window one too small: %v", b, err)
		}
	}
}

// tokens: up to n of them, with so many bytes ahead.
func (r *rolls) tokens(n, ahead int) []api.Token {
	var out []api.Token
	for range r.below(n + 1) {
		t := api.Token{Lit: byte(r.below(256))}
		if ahead > 0 && r.below(3) == 0 {
			t = match(3+r.below(256), 1+r.below(1+r.below(ahead)))
		}
		out = append(out, t)
		ahead += max(t.Len, 1)
	}
	return out
}

// P11.8, G7: any bytes

// inflated: what Go's own reader makes of bytes; false: they are no stream, or others stand behind it.
func inflated(b []byte) ([]byte, bool) {
	from := bytes.NewReader(b)
	out, err := io.ReadAll(flate.NewReader(from))
	return out, err == nil && from.Len() == 0
}

// spread: the bytes that blocks are.
func spread(t *testing.T, segs []block.Seg) []byte {
	t.Helper()
	var all []api.Token
	for _, s := range segs {
		all = append(all, s.Tokens...)
	}
	out, err := lz.Expand(32768, all...)
	if err != api.OK {
		t.Fatal(err)
	}
	return out
}

// asOthersSay: that All takes just what Go's own reader and block.Blocks take, and makes the same of it.
func asOthersSay(t *testing.T, b []byte) bool {
	t.Helper()
	got, err := swell.All(b, 32768, 1<<28)
	want, ok := inflated(b)
	if (err == api.OK) != ok || ok && !bytes.Equal(got, want) {
		t.Fatalf("%x: %x, %v; Go's own: %x, %v", b, got, err, want, ok)
	}
	for _, window := range []int{1, 50, 32768} {
		got, err := swell.All(b, window, 1<<28)
		segs, other := block.Blocks(b, window)
		if (err == api.OK) != (other == api.OK) || err == api.OK && !bytes.Equal(got, spread(t, segs)) {
			t.Fatalf("%x over %d: %v; Blocks: %v", b, window, err, other)
		}
	}
	return ok
}

func TestAnyBytes(t *testing.T) {
	r := rolls(68)
	for range 3000 {
		b := r.bytes(r.below(60), 256)
		if len(b) > 0 && r.below(2) == 0 {
			b[0] = b[0]&^7 | byte(2+r.below(4)) // a Plain or an Own block
		}
		everyWay(t, "any bytes", b, 1+r.below(40), r.below(40))
		asOthersSay(t, b)
	}
}

// Streams of which some bits are turned.
func TestTurnedBits(t *testing.T) {
	r := rolls(69)
	var all [][]byte
	for _, row := range streams() {
		all = append(all, packed(row, 0))
	}
	for _, data := range texts() {
		b, _ := press.Press(data[:min(len(data), 200)], api.Press{Look: api.Look{Window: 100, Chain: 4}, Block: 70})
		all = append(all, b)
	}
	slices.SortFunc(all, bytes.Compare)
	good := 0
	for _, b := range all {
		for range 60 {
			turned := slices.Clone(b)
			for range 1 + r.below(3) {
				turned[r.below(len(b))] ^= 1 << r.below(8)
			}
			switch r.below(4) {
			case 0:
				turned = turned[:r.below(len(turned)+1)]
			case 1:
				turned = append(turned, r.bytes(1+r.below(4), 256)...)
			}
			if asOthersSay(t, turned) {
				good++
			}
			if r.below(4) == 0 {
				everyWay(t, "turned bits", turned, 1+r.below(400), r.below(1500))
			}
		}
	}
	if good < 50 {
		t.Errorf("%d were streams: too little was tried", good)
	}
}

// Streams that Go's own writer makes.
func TestDeflatedByGo(t *testing.T) {
	r := rolls(70)
	long := slices.Concat(texts()...)
	for _, data := range append(texts(), bytes.Repeat(long, 9)) {
		for level := flate.HuffmanOnly; level <= flate.BestCompression; level++ {
			var to bytes.Buffer
			w, _ := flate.NewWriter(&to, level)
			w.Write(data[:len(data)/2])
			w.Flush() // a Stored block of no bytes
			w.Write(data[len(data)/2:])
			w.Close()
			if got, err := swell.All(to.Bytes(), 32768, len(data)); err != api.OK || !bytes.Equal(got, data) {
				t.Errorf("level %d of %d bytes: %v", level, len(data), err)
			}
			s := made(t, 32768, len(data))
			if got := inPieces(t, s, to.Bytes(), r.some(60), r.some(400)); !bytes.Equal(got, data) {
				t.Errorf("level %d of %d bytes: other bytes in pieces", level, len(data))
			}
		}
	}
}
