package press_test

import (
	"bytes"
	"compress/flate"
	"io"
	"math"
	"slices"
	"strings"
	"testing"

	"sapper/api"
	"sapper/bits"
	"sapper/block"
	"sapper/lz"
	"sapper/press"
)

// rolls: numbers that follow no pattern and are the same at each run.
type rolls uint64

// below: a number from 0 on, below n.
func (r *rolls) below(n int) int {
	*r = *r*6364136223846793005 + 1442695040888963407
	return int(uint64(*r>>33) % uint64(n))
}

// bytes: so many, from first on, of so many kinds.
func (r *rolls) bytes(n, first, kinds int) []byte {
	out := make([]byte, n)
	for i := range out {
		out[i] = byte(first + r.below(kinds))
	}
	return out
}

// patched: so many bytes, of which many are copies of those ahead.
func (r *rolls) patched(n, kinds int) []byte {
	out := r.bytes(min(n, 4), 'a', kinds)
	for len(out) < n {
		if r.below(3) == 0 {
			out = append(out, r.bytes(1, 'a', kinds)...)
			continue
		}
		dist := 1 + r.below(len(out))
		for range 1 + r.below(12) {
			out = append(out, out[len(out)-dist])
		}
	}
	return out[:n]
}

// texts: bytes of many kinds, some hundreds of them at most.
func texts() [][]byte {
	r := rolls(10)
	return [][]byte{
		nil,
		[]byte("a"),
		{0xff},
		[]byte("ab"),
		[]byte("abcabcabc"),
		[]byte(strings.Repeat("a", 3)),
		[]byte(strings.Repeat("a", 700)),
		[]byte(strings.Repeat("the quick brown fox ", 30)),
		make([]byte, 300),
		r.bytes(400, 0, 256),
		r.bytes(400, 144, 112),
		r.bytes(300, 'a', 2),
		r.bytes(300, 'a', 5),
		r.patched(300, 2),
		r.patched(500, 20),
		slices.Concat(r.bytes(90, 144, 112), bytes.Repeat([]byte("x"), 90), r.bytes(90, 0, 144)),
	}
}

// looks: ways to look for matches.
func looks() []api.Look {
	return []api.Look{
		{Window: 100, Chain: 10},
		{Window: 1, Chain: 1},
		{Window: 1, Chain: api.MaxChain, Lazy: true},
		{Window: api.MaxLook, Chain: 0},
		{Window: api.MaxLook, Chain: 0, Lazy: true},
		{Window: api.MaxLook, Chain: 1, Lazy: true},
		{Window: api.MaxLook, Chain: api.MaxChain},
		{Window: api.MaxLook, Chain: api.MaxChain, Lazy: true},
	}
}

// each: all texts with all looks, and blocks of many sizes.
func each(tell func(data []byte, o api.Press)) {
	for _, data := range texts() {
		for _, k := range looks() {
			for _, n := range []int{1, 2, 5} {
				tell(data[:min(len(data), 20*n)], api.Press{Look: k, Block: n})
			}
			for _, n := range []int{30, 90, 299, 300, api.MaxBlock} {
				tell(data, api.Press{Look: k, Block: n})
			}
		}
	}
}

// cutUp: tokens in blocks of so many.
func cutUp(l []api.Token, most int) [][]api.Token {
	out := [][]api.Token{nil}
	for _, t := range l {
		if len(out[len(out)-1]) == most {
			out = append(out, nil)
		}
		out[len(out)-1] = append(out[len(out)-1], t)
	}
	return out
}

// cheapest: the kind of a block that takes the fewest bits, and how many.
func cheapest(behind int, l []api.Token) (block.Kind, int) {
	best, least := block.Stored, math.MaxInt
	for _, k := range []block.Kind{block.Stored, block.Plain, block.Own} {
		if n, err := block.Cost(k, behind, l...); err == api.OK && n < least {
			best, least = k, n
		}
	}
	return best, least
}

// written: the stream of these tokens as the chapter says it, and its blocks.
func written(data []byte, l []api.Token, most int) ([]byte, []press.Part) {
	var w bits.Writer
	var parts []press.Part
	blocks := cutUp(l, most)
	for i, tokens := range blocks {
		kind, n := cheapest(w.Len()%8, tokens)
		size := 0
		for _, t := range tokens {
			size += max(t.Len, 1)
		}
		block.Write(&w, kind, i == len(blocks)-1, data[:size], tokens...)
		data = data[size:]
		parts = append(parts, press.Part{Kind: kind, Tokens: len(tokens), Bytes: size, Bits: n})
	}
	return w.Bytes(), parts
}

// pressed: Press and Parts, neither of which may refuse.
func pressed(t *testing.T, data []byte, o api.Press) ([]byte, []press.Part) {
	t.Helper()
	b, err := press.Press(data, o)
	parts, other := press.Parts(data, o)
	if err != api.OK || other != api.OK {
		t.Fatalf("%+v of %d bytes: %v, %v", o, len(data), err, other)
	}
	return b, parts
}

// unpressed: what Go's own reader makes of a stream, which must have no byte behind its end.
func unpressed(t *testing.T, b []byte) []byte {
	t.Helper()
	from := bytes.NewReader(b)
	out, err := io.ReadAll(flate.NewReader(from))
	if err != nil || from.Len() != 0 {
		t.Fatalf("not a stream: %v, %d bytes behind it", err, from.Len())
	}
	return out
}

// P10.1

func TestOptions(t *testing.T) {
	good := api.Look{Window: 100, Chain: 10}
	for i, c := range []struct {
		o    api.Press
		want api.Errno
	}{
		{api.Press{Look: good, Block: 1}, api.OK},
		{api.Press{Look: good, Block: 5}, api.OK},
		{api.Press{Look: good, Block: 65535}, api.OK},
		{api.Press{Look: good, Block: 65536}, api.OK},
		{api.Press{Look: good, Block: 0}, api.ErrPressOption},
		{api.Press{Look: good, Block: -1}, api.ErrPressOption},
		{api.Press{Look: good, Block: 65537}, api.ErrPressOption},
		{api.Press{Look: good, Block: math.MinInt}, api.ErrPressOption},
		{api.Press{Look: good, Block: math.MaxInt}, api.ErrPressOption},
		{api.Press{Look: api.Look{Window: 1}, Block: 5}, api.OK},
		{api.Press{Look: api.Look{Window: 32768, Chain: 4096, Lazy: true}, Block: 5}, api.OK},
		{api.Press{Look: api.Look{Window: 0}, Block: 5}, api.ErrPressOption},
		{api.Press{Look: api.Look{Window: -1}, Block: 5}, api.ErrPressOption},
		{api.Press{Look: api.Look{Window: 32769}, Block: 5}, api.ErrPressOption},
		{api.Press{Look: api.Look{Window: 100, Chain: -1}, Block: 5}, api.ErrPressOption},
		{api.Press{Look: api.Look{Window: 100, Chain: 4097}, Block: 5}, api.ErrPressOption},
		{api.Press{Look: api.Look{Window: math.MaxInt, Chain: math.MinInt}, Block: 5}, api.ErrPressOption},
		{api.Press{}, api.ErrPressOption},
	} {
		if got := press.Options(c.o); got != c.want {
			t.Errorf("row %d: %v, not %v", i, got, c.want)
		}
		for _, data := range [][]byte{nil, []byte("abcabc")} {
			b, err := press.Press(data, c.o)
			parts, other := press.Parts(data, c.o)
			squeezed, round, third := press.Squeeze(data, c.o, 1)
			if err != c.want || other != c.want || third != c.want {
				t.Errorf("row %d: %v, %v, %v, not %v", i, err, other, third, c.want)
			}
			if c.want != api.OK && (len(b) != 0 || len(parts) != 0 || len(squeezed) != 0 || round != 0) {
				t.Errorf("row %d: something beside the error", i)
			}
		}
	}
}

// P10.2, P10.3: the errors

func TestTooManyBytes(t *testing.T) {
	data := make([]byte, 1<<28+1)
	good := api.Press{Look: api.Look{Window: 1, Chain: 1}, Block: 65536}
	for _, o := range []api.Press{good, {Look: good.Look}, {Block: 5}} {
		b, err := press.Press(data, o)
		parts, other := press.Parts(data, o)
		if err != api.ErrArg || other != api.ErrArg || len(b) != 0 || len(parts) != 0 {
			t.Errorf("%+v: %v, %v", o, err, other)
		}
		for _, rounds := range []int{0, 1, -1, 9} {
			b, round, err := press.Squeeze(data, o, rounds)
			if err != api.ErrArg || len(b) != 0 || round != 0 {
				t.Errorf("%+v, %d rounds: %v", o, rounds, err)
			}
		}
	}
	// So many may be pressed, if the options may be.
	if _, err := press.Press(data[:1<<28], api.Press{Block: 5}); err != api.ErrPressOption {
		t.Errorf("MaxCap bytes: %v", err)
	}
}

// P10.2, P10.3

func TestExamples(t *testing.T) {
	o := api.Press{Look: api.Look{Window: 100, Chain: 10}, Block: 5}
	for _, c := range []struct {
		data, want string
		part       press.Part
	}{
		{"", "\x03\x00", press.Part{Kind: block.Plain, Bits: 10}},
		{"a", "\x4b\x04\x00", press.Part{Kind: block.Plain, Tokens: 1, Bytes: 1, Bits: 18}},
		{"abcabcabc", "\x4b\x4c\x4a\x86\x20\x00", press.Part{Kind: block.Plain, Tokens: 4, Bytes: 9, Bits: 46}},
	} {
		b, parts := pressed(t, []byte(c.data), o)
		if string(b) != c.want || !slices.Equal(parts, []press.Part{c.part}) {
			t.Errorf("%q: %x %+v", c.data, b, parts)
		}
	}
}

func TestPressAsTheChapterSays(t *testing.T) {
	each(func(data []byte, o api.Press) {
		tokens, _ := lz.Parse(data, o.Look)
		want, wantParts := written(data, tokens, o.Block)
		b, parts := pressed(t, data, o)
		if !bytes.Equal(b, want) || !slices.Equal(parts, wantParts) {
			t.Errorf("%+v of %q: %x %+v, not %x %+v", o, data, b, parts, want, wantParts)
		}
	})
}

func TestBlocksOfHowManyTokens(t *testing.T) {
	r := rolls(20)
	for _, k := range []api.Look{{Window: 100}, {Window: 300, Chain: 20}, {Window: 300, Chain: 20, Lazy: true}} {
		data := r.patched(600, 9)
		tokens, _ := lz.Parse(data, k)
		n := len(tokens)
		for _, c := range []struct{ block, parts, last int }{
			{n, 1, n},
			{n + 1, 1, n},
			{n - 1, 2, 1},
			{1, n, 1},
			{(n + 1) / 2, 2, n / 2},
			{65536, 1, n},
		} {
			_, parts := pressed(t, data, api.Press{Look: k, Block: c.block})
			if len(parts) != c.parts || parts[len(parts)-1].Tokens != c.last {
				t.Errorf("%d tokens in blocks of %d: %d blocks, the last one %+v", n, c.block, len(parts), parts[len(parts)-1])
			}
			for _, p := range parts[:len(parts)-1] {
				if p.Tokens != c.block {
					t.Errorf("%d tokens in blocks of %d: one of %d", n, c.block, p.Tokens)
				}
			}
		}
	}
}

func TestSeveralTimesBlock(t *testing.T) {
	r := rolls(21)
	for _, size := range []int{119, 120, 121} {
		data := r.bytes(size, 0, 256)
		_, parts := pressed(t, data, api.Press{Look: api.Look{Window: 1}, Block: 40})
		if want := (size + 39) / 40; len(parts) != want {
			t.Errorf("%d tokens in blocks of 40: %d, not %d", size, len(parts), want)
		}
	}
}

// Blocks as great as they may be, of bytes that are pressed best if they are left as they are: so many may not be Stored.
func TestBlocksOfMaxBlock(t *testing.T) {
	r := rolls(22)
	noise := r.bytes(2*65536+1, 0, 256)
	o := api.Press{Look: api.Look{Window: 1}, Block: 65536}
	for _, c := range []struct {
		size  int
		kinds []block.Kind
	}{
		{65535, []block.Kind{block.Stored}},
		{65536, []block.Kind{block.Own}},
		{65537, []block.Kind{block.Own, block.Plain}},
		{65536 + 65535, []block.Kind{block.Own, block.Stored}},
		{2 * 65536, []block.Kind{block.Own, block.Own}},
		{2*65536 + 1, []block.Kind{block.Own, block.Own, block.Plain}},
	} {
		b, parts := pressed(t, noise[:c.size], o)
		var kinds []block.Kind
		for _, p := range parts {
			kinds = append(kinds, p.Kind)
		}
		if !slices.Equal(kinds, c.kinds) || !bytes.Equal(unpressed(t, b), noise[:c.size]) {
			t.Errorf("%d bytes: kinds %v", c.size, kinds)
		}
	}
}

// All kinds of blocks, behind all counts of bits of a byte.
func TestEachKindBehindEachCount(t *testing.T) {
	r := rolls(23)
	met := map[[2]int]int{}
	for range 100 {
		var data []byte
		for range 1 + r.below(20) {
			switch r.below(3) {
			case 0:
				data = append(data, r.bytes(40, 144, 112)...)
			case 1:
				data = append(data, r.bytes(40, 0, 144)...)
			case 2:
				data = append(data, bytes.Repeat(r.bytes(1, 0, 256), 40)...)
			}
		}
		data = data[:len(data)-r.below(40)]
		o := api.Press{Look: api.Look{Window: 1}, Block: 40}
		want, _ := written(data, lits(string(data)), 40)
		b, parts := pressed(t, data, o)
		if !bytes.Equal(b, want) || !bytes.Equal(unpressed(t, b), data) {
			t.Errorf("%x: %x, not %x", data, b, want)
		}
		ahead := 0
		for _, p := range parts {
			met[[2]int{int(p.Kind), ahead % 8}]++
			ahead += p.Bits
		}
	}
	if len(met) != 3*8 {
		t.Errorf("%d of 24 met: %v", len(met), met)
	}
}

// The stream as block.Blocks reads it: the parts, the last one alone told so, and no bit set behind its end.
func TestPartsAreTheBlocks(t *testing.T) {
	each(func(data []byte, o api.Press) {
		b, parts := pressed(t, data, o)
		segs, err := block.Blocks(b, o.Look.Window)
		if err != api.OK || len(segs) != len(parts) {
			t.Fatalf("%+v of %q: %d blocks, %d parts, %v", o, data, len(segs), len(parts), err)
		}
		var all []api.Token
		total := 0
		for i, s := range segs {
			p := parts[i]
			if s.Kind != p.Kind || s.Bits != p.Bits || s.Last != (i == len(segs)-1) || lz.Size(s.Tokens...) != p.Bytes {
				t.Errorf("%+v of %q: block %d is %v, %d bits, last %v; part %+v", o, data, i, s.Kind, s.Bits, s.Last, p)
			}
			if s.Kind != block.Stored && len(s.Tokens) != p.Tokens {
				t.Errorf("%+v of %q: block %d has %d tokens; part %+v", o, data, i, len(s.Tokens), p)
			}
			all = append(all, s.Tokens...)
			total += s.Bits
		}
		if back, err := lz.Expand(o.Look.Window, all...); err != api.OK || !bytes.Equal(back, data) {
			t.Errorf("%+v of %q: the tokens are %q, %v", o, data, back, err)
		}
		if total%8 != 0 && b[len(b)-1]>>(total%8) != 0 {
			t.Errorf("%+v of %q: the last byte is %08b, %d bits of it in use", o, data, b[len(b)-1], total%8)
		}
	})
}

// G7, as others read it.
func TestStreamAsOthersReadIt(t *testing.T) {
	each(func(data []byte, o api.Press) {
		b, _ := pressed(t, data, o)
		if got := unpressed(t, b); !bytes.Equal(got, data) {
			t.Errorf("%+v of %q: %q", o, data, got)
		}
	})
	r := rolls(24)
	for _, o := range []api.Press{
		{Look: api.Look{Window: 32768, Chain: 16}, Block: 16384},
		{Look: api.Look{Window: 32768, Chain: 16, Lazy: true}, Block: 1000},
		{Look: api.Look{Window: 700, Chain: 4}, Block: 65536},
	} {
		data := slices.Concat(r.patched(100000, 20), r.bytes(70000, 0, 256), make([]byte, 80000), r.patched(50000, 256))
		b, _ := pressed(t, data, o)
		if !bytes.Equal(unpressed(t, b), data) {
			t.Errorf("%+v: other bytes", o)
		}
	}
}

// P10.4

func TestPartsTogether(t *testing.T) {
	each(func(data []byte, o api.Press) {
		b, parts := pressed(t, data, o)
		size, total := 0, 0
		for _, p := range parts {
			size += p.Bytes
			total += p.Bits
		}
		if size != len(data) || (total+7)/8 != len(b) {
			t.Errorf("%+v of %q: parts of %d bytes and %d bits, a stream of %d bytes", o, data, size, total, len(b))
		}
	})
}

// P10.5

func TestMostBytes(t *testing.T) {
	r := rolls(25)
	check := func(data []byte, o api.Press) {
		b, parts := pressed(t, data, o)
		if n := len(data); len(b) > n+n/3+2*len(parts)+1 {
			t.Errorf("%+v: %d bytes of %d in %d parts", o, len(b), n, len(parts))
		}
	}
	each(check)
	for range 60 {
		data := r.bytes(r.below(100), 144, 112)
		for _, chain := range []int{0, 10} {
			check(data, api.Press{Look: api.Look{Window: 32768, Chain: chain}, Block: 1 + r.below(40)})
		}
	}
	// Matches that are as short as they may be, and far ahead, all of them in blocks of a few.
	far := slices.Concat(r.bytes(60, 0, 256), bytes.Repeat([]byte{0, 255}, 15000))
	for at := range 20 {
		far = append(far, far[3*at:3*at+3]...)
	}
	for n := range 5 {
		check(far, api.Press{Look: api.Look{Window: 32768, Chain: 10}, Block: 1 + n})
	}
}

// P10.6

func TestWithoutMatches(t *testing.T) {
	each(func(data []byte, o api.Press) {
		o.Look.Chain = 0
		_, parts := pressed(t, data, o)
		for _, p := range parts {
			if p.Tokens != p.Bytes || p.Bytes > o.Block {
				t.Errorf("%+v of %q: %+v", o, data, p)
			}
		}
	})
}

func TestOneBlock(t *testing.T) {
	r := rolls(26)
	long := r.patched(65536, 10)
	for _, k := range looks() {
		for _, n := range []int{0, 1, 3, 1000, 65535, 65536} {
			if k.Chain > 1 && n > 1000 {
				k.Chain = 16
			}
			if _, parts := pressed(t, long[:n], api.Press{Look: k, Block: 65536}); len(parts) != 1 {
				t.Errorf("%+v: %d bytes in %d parts", k, n, len(parts))
			}
		}
	}
}

// R3

func TestArgumentsStay(t *testing.T) {
	room := bytes.Repeat([]byte("abcabcab\xffxyz"), 40)
	kept := slices.Clone(room)
	data := room[:200]
	o := api.Press{Look: api.Look{Window: 100, Chain: 10}, Block: 7}
	pressed(t, data, o)
	press.Squeeze(data, o, 3)
	tokens, _ := lz.Parse(kept, o.Look)
	l := slices.Clone(tokens)
	press.Prices(l[:len(l)/2]...)
	if !bytes.Equal(room, kept) || !slices.Equal(l, tokens) {
		t.Error("what was handed in has changed")
	}
}

func TestAnswersAreNew(t *testing.T) {
	r := rolls(27)
	// Stored bytes, too: those of the stream are none of data's.
	for _, data := range [][]byte{nil, r.bytes(300, 144, 112), r.patched(300, 4)} {
		kept := slices.Clone(data)
		o := api.Press{Look: api.Look{Window: 100, Chain: 10}, Block: 50}
		b, parts := pressed(t, data, o)
		squeezed, _, _ := press.Squeeze(data, o, 2)
		wantB, wantParts, wantSqueezed := slices.Clone(b), slices.Clone(parts), slices.Clone(squeezed)
		clear(b)
		clear(b[len(b):cap(b)])
		clear(parts)
		clear(parts[len(parts):cap(parts)])
		clear(squeezed)
		_ = append(b, 1, 2, 3)
		_ = append(parts, press.Part{Tokens: 1})
		_ = append(squeezed, 1, 2, 3)
		if !bytes.Equal(data, kept) {
			t.Error("an answer is an argument's memory")
		}
		b, parts = pressed(t, data, o)
		squeezed, _, _ = press.Squeeze(data, o, 2)
		if !bytes.Equal(b, wantB) || !slices.Equal(parts, wantParts) || !bytes.Equal(squeezed, wantSqueezed) {
			t.Error("an answer that was written over is told again")
		}
	}
}

func TestAnswersStay(t *testing.T) {
	r := rolls(28)
	data := r.bytes(300, 144, 112)
	o := api.Press{Look: api.Look{Window: 100, Chain: 10}, Block: 50}
	b, parts := pressed(t, data, o)
	wantB, wantParts := slices.Clone(b), slices.Clone(parts)
	clear(data)
	pressed(t, data, o)
	if !bytes.Equal(b, wantB) || !slices.Equal(parts, wantParts) {
		t.Error("an answer has changed with the argument")
	}
}

// R4

func TestTheSameEachTime(t *testing.T) {
	r := rolls(29)
	data := r.patched(2000, 6)
	roomy := append(make([]byte, 0, 9000), data...)
	o := api.Press{Look: api.Look{Window: 1000, Chain: 10, Lazy: true}, Block: 60}
	b, parts := pressed(t, data, o)
	squeezed, round, _ := press.Squeeze(data, o, 4)
	for range 3 {
		again, partsAgain := pressed(t, roomy, o)
		third, roundAgain, _ := press.Squeeze(roomy, o, 4)
		if !bytes.Equal(again, b) || !slices.Equal(partsAgain, parts) || !bytes.Equal(third, squeezed) || round != roundAgain {
			t.Error("other answers of the same bytes")
		}
	}
}
