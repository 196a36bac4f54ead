package code_test

import (
	"math"
	"slices"
	"strings"
	"testing"

	"sapper/api"
	"sapper/bits"
	"sapper/code"
)

// rolls: numbers that follow no pattern and are the same at each run.
type rolls uint64

// below: a number from 0 on, below n.
func (r *rolls) below(n int) int {
	*r = *r*6364136223846793005 + 1442695040888963407
	return int(uint64(*r>>33) % uint64(n))
}

// text: so many bits, as a text of 0 and 1.
func (r *rolls) text(n int) string {
	var out strings.Builder
	for range n {
		out.WriteByte("01"[r.below(2)])
	}
	return out.String()
}

// split: so many leaves, made of these: one of them is split in two over and over.
func (r *rolls) split(leaves []int, n int) []int {
	for len(leaves) < n {
		if i := r.below(len(leaves)); leaves[i] < api.MaxLen {
			leaves[i]++
			leaves = append(leaves, leaves[i])
		}
	}
	return leaves
}

// whole: lengths of which so many are in use and take the whole space, among all (at least as many), in any order.
func (r *rolls) whole(used, all int) []int {
	out := append(r.split([]int{1, 1}, used), make([]int, all-used)...)
	for i := range out {
		j := i + r.below(len(out)-i)
		out[i], out[j] = out[j], out[i]
	}
	return out
}

// same: so many lengths of one size.
func same(n, l int) []int { return slices.Repeat([]int{l}, n) }

// stairs: 1, 2, 3 .. up to MaxLen, this one so many times; twice they are just whole.
func stairs(last int) []int {
	var out []int
	for l := 1; l < api.MaxLen; l++ {
		out = append(out, l)
	}
	return append(out, same(last, api.MaxLen)...)
}

// plain: the 288 lengths of RFC 1951, 3.2.6.
func plain() []int {
	return slices.Concat(same(144, 8), same(112, 9), same(24, 7), same(8, 8))
}

// full: MaxSymbols lengths that take the whole space, all of them with a code, the greatest MaxLen.
func full() []int {
	r := rolls(9)
	return r.split(stairs(2), api.MaxSymbols)
}

// wholeOnes: lengths whose space is the whole one, of many kinds.
func wholeOnes() [][]int {
	out := [][]int{
		{1, 1}, {2, 1, 3, 3}, {0, 1, 0, 1}, {3, 3, 3, 3, 3, 2, 4, 4}, {2, 2, 2, 2}, {3, 3, 2, 1}, {1, 2, 3, 3},
		stairs(2), plain(), same(256, 8), same(32, 5), slices.Concat(same(255, 0), []int{1}, same(31, 0), []int{1}),
	}
	down := stairs(2)
	slices.Reverse(down)
	out = append(out, down)
	r := rolls(5)
	for used := 2; used <= api.MaxSymbols; used += 1 + r.below(30) {
		out = append(out, r.whole(used, used+r.below(api.MaxSymbols-used+1)))
	}
	return append(out, r.whole(api.MaxSymbols, api.MaxSymbols))
}

// openOnes: lengths that may be, whose space is not the whole one.
func openOnes() [][]int {
	return [][]int{
		nil, {}, {0}, {0, 0}, same(api.MaxSymbols, 0),
		{1}, {0, 1}, {1, 0, 0}, {0, 0, 1, 0}, append(same(api.MaxSymbols-1, 0), 1), append([]int{1}, same(api.MaxSymbols-1, 0)...),
	}
}

// wrongOnes: lengths that may not be, and why.
func wrongOnes() []verdict {
	return []verdict{
		{[]int{-1}, api.ErrCodeLen}, {[]int{16}, api.ErrCodeLen}, {[]int{1, 1, -1}, api.ErrCodeLen}, {[]int{1, 1, 16}, api.ErrCodeLen},
		{[]int{math.MinInt}, api.ErrCodeLen}, {[]int{math.MaxInt}, api.ErrCodeLen}, {[]int{1, math.MaxInt, 1}, api.ErrCodeLen},
		{[]int{math.MinInt + 1, 1, 1}, api.ErrCodeLen}, {[]int{1, 1, 1 << 32}, api.ErrCodeLen}, {[]int{1, 1<<32 + 1}, api.ErrCodeLen},
		{same(api.MaxSymbols+1, 0), api.ErrCodeLen}, {append(plain(), 0), api.ErrCodeLen}, {same(5000, 0), api.ErrCodeLen},
		{[]int{1, 1, 1}, api.ErrCodeOver}, {stairs(3), api.ErrCodeOver}, {same(api.MaxSymbols, 1), api.ErrCodeOver},
		{same(257, 8), api.ErrCodeOver}, {[]int{1, 1, 15}, api.ErrCodeOver}, {append(stairs(2), 0, 15), api.ErrCodeOver},
		{[]int{2, 2}, api.ErrCodeUnder}, {stairs(1), api.ErrCodeUnder}, {[]int{2}, api.ErrCodeUnder}, {[]int{15}, api.ErrCodeUnder},
		{[]int{0, 3, 0}, api.ErrCodeUnder}, {[]int{1, 15}, api.ErrCodeUnder}, {[]int{1, 2}, api.ErrCodeUnder}, {[]int{2, 2, 2}, api.ErrCodeUnder},
		{same(255, 8), api.ErrCodeUnder}, {same(api.MaxSymbols, 15), api.ErrCodeUnder}, {[]int{0, 0, 14}, api.ErrCodeUnder},
		// Two faults: the lengths by themselves are looked at first.
		{[]int{1, 1, 1, 16}, api.ErrCodeLen}, {[]int{1, 1, 1, -1}, api.ErrCodeLen}, {[]int{16, 1, 1, 1}, api.ErrCodeLen},
		{[]int{2, 2, -1}, api.ErrCodeLen}, {[]int{-1, 2, 2}, api.ErrCodeLen}, {[]int{3, 17}, api.ErrCodeLen},
		{same(api.MaxSymbols+1, 1), api.ErrCodeLen}, {same(api.MaxSymbols+1, 15), api.ErrCodeLen}, {same(api.MaxSymbols+1, -1), api.ErrCodeLen},
	}
}

// verdict: lengths, and what Check must say.
type verdict struct {
	lens []int
	err  api.Errno
}

// spaceOf: the sum of the chapter, length by length, and how many symbols have a code.
func spaceOf(lens []int) (space, used int) {
	for _, l := range lens {
		if l != 0 {
			part := 1
			for range api.MaxLen - l {
				part *= 2
			}
			space += part
			used++
		}
	}
	return space, used
}

// judged: what Check must say.
func judged(lens []int) api.Errno {
	for _, l := range lens {
		if l < 0 || l > 15 {
			return api.ErrCodeLen
		}
	}
	if len(lens) > 288 {
		return api.ErrCodeLen
	}
	space, used := spaceOf(lens)
	switch {
	case space > 32768:
		return api.ErrCodeOver
	case space == 32768, used == 0:
		return api.OK
	case used == 1 && slices.Max(lens) == 1:
		return api.OK
	}
	return api.ErrCodeUnder
}

// texts: the codes by the chapter's words, as texts of 0 and 1; "" for a symbol without.
func texts(lens []int) []string {
	out := make([]string, len(lens))
	last := ""
	for l := 1; l <= 15; l++ {
		for symbol, have := range lens {
			if have != l {
				continue
			}
			if last != "" {
				last = plusOne(last)
			}
			last += strings.Repeat("0", l-len(last))
			out[symbol] = last
		}
	}
	return out
}

// plusOne: a number of 0 and 1 that is not all 1, and one more.
func plusOne(text string) string {
	at := strings.LastIndexByte(text, '0')
	return text[:at] + "1" + strings.Repeat("0", len(text)-at-1)
}

// number: a text of 0 and 1 as a number, its first bit the highest.
func number(text string) int {
	n := 0
	for _, c := range text {
		n = 2*n + int(c-'0')
	}
	return n
}

// packed: bits as bytes, the first of a byte its lowest, with noughts up to the last one's end.
func packed(text string) []byte {
	out := make([]byte, (len(text)+7)/8)
	for i := range text {
		out[i/8] |= (text[i] - '0') << (i % 8)
	}
	return out
}

// holding: a reader that holds just these bits, at most 64.
func holding(t *testing.T, text string) *bits.Reader {
	t.Helper()
	r := new(bits.Reader)
	lead := (8 - len(text)%8) % 8
	r.Feed(packed(strings.Repeat("1", lead) + text))
	r.Take(lead)
	if r.Has() != len(text) {
		t.Fatalf("a reader of %q holds %d bits", text, r.Has())
	}
	return r
}

// held: the bits that a reader holds, at most 64; they are gone.
func held(r *bits.Reader) string {
	var out strings.Builder
	for r.Has() > 0 {
		v, _ := r.Take(1)
		out.WriteByte('0' + byte(v))
	}
	return out.String()
}

// written: the bits that a writer has.
func written(w *bits.Writer) string {
	var out strings.Builder
	p := w.Bytes()
	for i := range w.Len() {
		out.WriteByte('0' + p[i/8]>>(i%8)&1)
	}
	return out.String()
}

// encoder, decoder: of lengths that may be.
func encoder(t *testing.T, lens []int) *code.Encoder {
	t.Helper()
	e, err := code.NewEncoder(lens)
	if e == nil || err != api.OK {
		t.Fatalf("NewEncoder(%v): %v, %d", lens, e, err)
	}
	return e
}

func decoder(t *testing.T, room int, lens []int) *code.Decoder {
	t.Helper()
	d, err := code.NewDecoder(room)
	if d == nil || err != api.OK {
		t.Fatalf("NewDecoder(%d): %v, %d", room, d, err)
	}
	if err := d.Load(lens); err != api.OK {
		t.Fatalf("Load(%v): %d", lens, err)
	}
	return d
}

// wanted: what Next must answer over these bits, and how many it must take.
func wanted(codes []string, text string) (symbol int, ok bool, err api.Errno, taken int) {
	some, begun := false, false
	for s, c := range codes {
		if c != "" && strings.HasPrefix(text, c) {
			return s, true, api.OK, len(c)
		}
		some = some || c != ""
		begun = begun || c != "" && strings.HasPrefix(c, text)
	}
	if !some || !begun {
		return 0, false, api.ErrCodeForm, 0
	}
	return 0, false, api.OK, 0
}

// tryNext: Next over just these bits, held against what must be, and the bits that are left.
func tryNext(t *testing.T, d *code.Decoder, codes []string, text string) {
	t.Helper()
	r := holding(t, text)
	ahead := r.Taken()
	symbol, ok, err := d.Next(r)
	s, o, e, n := wanted(codes, text)
	if symbol != s || ok != o || err != e {
		t.Fatalf("codes %q: Next over %q: %d, %v, %d; it must be %d, %v, %d", codes, text, symbol, ok, err, s, o, e)
	}
	if r.Taken()-ahead != n || r.Has() != len(text)-n {
		t.Fatalf("codes %q: Next over %q has taken %d bits, and left %d", codes, text, r.Taken()-ahead, r.Has())
	}
	if left := held(r); left != text[n:] {
		t.Fatalf("codes %q: Next over %q has left %q", codes, text, left)
	}
}

// lists: all lists of at most n items out of these.
func lists(n int, items ...int) [][]int {
	out := [][]int{{}}
	for from := 0; n > 0; n-- {
		to := len(out)
		for _, l := range out[from:to] {
			for _, x := range items {
				out = append(out, append(slices.Clip(l), x))
			}
		}
		from = to
	}
	return out
}

// P5.1

func TestCheckOfTheExamples(t *testing.T) {
	for _, c := range []verdict{
		{[]int{2, 1, 3, 3}, api.OK}, {[]int{1, 1, 1}, api.ErrCodeOver}, {[]int{2, 2}, api.ErrCodeUnder}, {[]int{0, 1}, api.OK},
		{[]int{0, 0}, api.OK}, {[]int{16}, api.ErrCodeLen}, {[]int{-1}, api.ErrCodeLen},
	} {
		if err := code.Check(c.lens); err != c.err {
			t.Errorf("Check(%v): %d, not %d", c.lens, err, c.err)
		}
	}
	if n, err := code.Space([]int{2, 1, 3, 3}); n != 1<<15 || err != api.OK {
		t.Errorf("Space: %d, %d", n, err)
	}
}

func TestCheckOfWhatMayBe(t *testing.T) {
	for _, lens := range slices.Concat(wholeOnes(), openOnes()) {
		if err := code.Check(lens); err != api.OK {
			t.Errorf("Check(%v): %d", lens, err)
		}
	}
	if lens := full(); len(lens) != api.MaxSymbols || slices.Max(lens) != api.MaxLen || code.Check(lens) != api.OK {
		t.Errorf("Check of %d lengths up to %d: %d", len(lens), slices.Max(lens), code.Check(lens))
	}
}

func TestCheckOfWhatMayNotBe(t *testing.T) {
	for _, c := range wrongOnes() {
		if err := code.Check(c.lens); err != c.err {
			t.Errorf("Check(%v): %d, not %d", c.lens, err, c.err)
		}
	}
}

func TestCheckOfOneSymbol(t *testing.T) {
	for l := -2; l <= 18; l++ {
		want := judged([]int{l})
		for _, lens := range [][]int{{l}, {0, l}, {l, 0}, {0, 0, l, 0}, append(same(287, 0), l), append([]int{l}, same(287, 0)...)} {
			if err := code.Check(lens); err != want {
				t.Errorf("Check of one length %d among %d: %d, not %d", l, len(lens), err, want)
			}
		}
	}
}

func TestCheckOfAllShortLists(t *testing.T) {
	for _, lens := range lists(5, -1, 0, 1, 2, 3, 4, 15, 16) {
		if err := code.Check(lens); err != judged(lens) {
			t.Fatalf("Check(%v): %d, not %d", lens, err, judged(lens))
		}
	}
}

func TestCheckOneOffTheWhole(t *testing.T) {
	for _, lens := range wholeOnes() {
		for range 3 {
			lens = slices.Clone(lens)
			at := slices.Index(lens, slices.Max(lens))
			lens[at]++
			if err := code.Check(lens); err != judged(lens) || err == api.OK {
				t.Fatalf("Check(%v), which is less than the whole: %d", lens, err)
			}
			lens[at] -= 2
			if lens[at] < 1 {
				break
			}
			if err := code.Check(lens); err != api.ErrCodeOver {
				t.Fatalf("Check(%v), which is more than the whole: %d", lens, err)
			}
			lens[at]++
		}
	}
}

func TestSpace(t *testing.T) {
	for _, lens := range slices.Concat(wholeOnes(), openOnes()) {
		want, _ := spaceOf(lens)
		if n, err := code.Space(lens); n != want || err != api.OK {
			t.Errorf("Space(%v): %d, %d; it is %d", lens, n, err, want)
		}
	}
	for _, c := range wrongOnes() {
		n, err := code.Space(c.lens)
		if c.err == api.ErrCodeLen {
			if n != 0 || err != api.ErrCodeLen {
				t.Errorf("Space(%v): %d, %d", c.lens, n, err)
			}
			continue
		}
		if want, _ := spaceOf(c.lens); n != want || err != api.OK {
			t.Errorf("Space(%v): %d, %d; it is %d", c.lens, n, err, want)
		}
	}
}

func TestSpaceOfEachLength(t *testing.T) {
	for l := 1; l <= api.MaxLen; l++ {
		for _, n := range []int{1, 2, 3, 287, 288} {
			if got, err := code.Space(same(n, l)); got != n<<(15-l) || err != api.OK {
				t.Errorf("Space of %d times %d: %d, %d", n, l, got, err)
			}
		}
	}
	for _, c := range []struct {
		lens []int
		want int
	}{{stairs(1), 1<<15 - 1}, {stairs(2), 1 << 15}, {stairs(3), 1<<15 + 1}, {same(288, 1), 288 << 14}, {nil, 0}, {same(288, 0), 0}} {
		if got, err := code.Space(c.lens); got != c.want || err != api.OK {
			t.Errorf("Space(%v): %d, %d", c.lens, got, err)
		}
	}
}

// P5.2

func TestCodesOfTheExamples(t *testing.T) {
	for _, c := range []struct{ lens, want []int }{
		{[]int{2, 1, 3, 3}, []int{2, 0, 6, 7}},
		{[]int{0, 1}, []int{0, 0}},
		{[]int{0, 0}, []int{0, 0}},
		{nil, nil},
		{[]int{1}, []int{0}},
		{[]int{1, 1}, []int{0, 1}},
		{[]int{2, 2, 2, 2}, []int{0, 1, 2, 3}},
		{[]int{3, 0, 3, 0, 2, 1}, []int{6, 0, 7, 0, 2, 0}},
		{[]int{3, 3, 3, 3, 3, 2, 4, 4}, []int{2, 3, 4, 5, 6, 0, 14, 15}}, // RFC 1951, 3.2.2
		{[]int{1, 3, 3, 3, 3}, []int{0, 4, 5, 6, 7}},                     // no code of two bits between
		{[]int{4, 4, 4, 4, 4, 4, 4, 4, 1}, []int{8, 9, 10, 11, 12, 13, 14, 15, 0}},
	} {
		got, err := code.Codes(c.lens)
		if err != api.OK || !slices.Equal(got, c.want) {
			t.Errorf("Codes(%v): %v, %d; they are %v", c.lens, got, err, c.want)
		}
	}
}

// The plain codes as RFC 1951, 3.2.6, writes them out.
func TestCodesOfThePlainLengths(t *testing.T) {
	got, err := code.Codes(plain())
	if err != api.OK || len(got) != 288 {
		t.Fatalf("%d codes, %d", len(got), err)
	}
	for _, c := range []struct {
		symbol int
		text   string
	}{{0, "00110000"}, {143, "10111111"}, {144, "110010000"}, {255, "111111111"}, {256, "0000000"}, {279, "0010111"}, {280, "11000000"}, {287, "11000111"}} {
		if got[c.symbol] != number(c.text) {
			t.Errorf("symbol %d: %b, not %s", c.symbol, got[c.symbol], c.text)
		}
	}
}

func TestCodesGoUp(t *testing.T) {
	for _, lens := range slices.Concat(wholeOnes(), openOnes(), [][]int{full()}) {
		got, err := code.Codes(lens)
		if err != api.OK || len(got) != len(lens) {
			t.Fatalf("Codes(%v): %d of them, %d", lens, len(got), err)
		}
		for symbol, text := range texts(lens) {
			if got[symbol] != number(text) {
				t.Fatalf("Codes(%v): symbol %d has %b, not %q", lens, symbol, got[symbol], text)
			}
		}
	}
}

func TestCodesOfAllShortLists(t *testing.T) {
	for _, lens := range lists(5, 0, 1, 2, 3, 4) {
		got, err := code.Codes(lens)
		if err != judged(lens) || err != api.OK && got != nil {
			t.Fatalf("Codes(%v): %v, %d", lens, got, err)
		}
		if err != api.OK {
			continue
		}
		for symbol, text := range texts(lens) {
			if len(got) != len(lens) || got[symbol] != number(text) {
				t.Fatalf("Codes(%v): %v, not %q", lens, got, texts(lens))
			}
		}
	}
}

func TestCodesAnswersChecksErrors(t *testing.T) {
	for _, c := range wrongOnes() {
		if got, err := code.Codes(c.lens); got != nil || err != c.err {
			t.Errorf("Codes(%v): %v, %d, not %d", c.lens, got, err, c.err)
		}
	}
}

// P5.3

func TestEncoderOfTheExample(t *testing.T) {
	e := encoder(t, []int{2, 1, 3, 3})
	var w bits.Writer
	if err := e.Put(&w, 2); err != api.OK || written(&w) != "110" {
		t.Errorf("Put 2: %d, %q", err, written(&w))
	}
	if err := e.Put(&w, 4); err != api.ErrCodeSymbol || written(&w) != "110" {
		t.Errorf("Put 4: %d, %q", err, written(&w))
	}
	for symbol, want := range []string{"10", "0", "110", "111"} {
		var w bits.Writer
		if err := e.Put(&w, symbol); err != api.OK || written(&w) != want {
			t.Errorf("Put %d: %d, %q", symbol, err, written(&w))
		}
	}
	for symbol, want := range []int{2, 1, 3, 3, 0, 0, 0, 0, 0, 0} {
		if got := e.Cost(symbol); got != want {
			t.Errorf("Cost(%d): %d", symbol, got)
		}
	}
}

// Every symbol's code, the first bit first, behind any count of bits.
func TestPutLaysEveryCodeBehindWhatThereIs(t *testing.T) {
	for i, lens := range slices.Concat(wholeOnes(), openOnes(), [][]int{full()}) {
		e := encoder(t, lens)
		var w bits.Writer
		w.Put(0, i%9)
		want := strings.Repeat("0", i%9)
		for symbol, text := range texts(lens) {
			err := e.Put(&w, symbol)
			if text == "" && err != api.ErrCodeSymbol || text != "" && err != api.OK {
				t.Fatalf("lengths %v: Put(%d): %d", lens, symbol, err)
			}
			if cost := e.Cost(symbol); cost != len(text) {
				t.Fatalf("lengths %v: Cost(%d): %d", lens, symbol, cost)
			}
			want += text
		}
		if got := written(&w); got != want {
			t.Fatalf("lengths %v: the codes laid down are %q, not %q", lens, got, want)
		}
	}
}

func TestPutRefusesSymbolsWithoutACode(t *testing.T) {
	for _, lens := range [][]int{{2, 1, 3, 3}, {0, 1}, {0, 1, 0, 1, 0}, {}, nil, {0}, {0, 0}, same(288, 0), plain(), {1}} {
		e := encoder(t, lens)
		var w bits.Writer
		w.Put(5, 3)
		for _, symbol := range []int{-1, -2, math.MinInt, len(lens), len(lens) + 1, 288, 289, 1 << 32, math.MaxInt} {
			if err := e.Put(&w, symbol); err != api.ErrCodeSymbol {
				t.Errorf("lengths %v: Put(%d): %d", lens, symbol, err)
			}
			if n := e.Cost(symbol); n != 0 {
				t.Errorf("lengths %v: Cost(%d): %d", lens, symbol, n)
			}
		}
		for symbol, l := range lens {
			if l == 0 && (e.Put(&w, symbol) != api.ErrCodeSymbol || e.Cost(symbol) != 0) {
				t.Errorf("lengths %v: symbol %d has no code", lens, symbol)
			}
		}
		if written(&w) != "101" {
			t.Errorf("lengths %v: what was refused has left %q", lens, written(&w))
		}
	}
}

func TestNewEncoderAnswersChecksErrors(t *testing.T) {
	for _, c := range wrongOnes() {
		if e, err := code.NewEncoder(c.lens); e != nil || err != c.err {
			t.Errorf("NewEncoder(%v): %v, %d, not %d", c.lens, e, err, c.err)
		}
	}
}

func TestEncodersThatNoCallMade(t *testing.T) {
	var w bits.Writer
	w.Put(1, 1)
	for _, e := range []*code.Encoder{nil, {}, new(code.Encoder)} {
		for _, symbol := range []int{0, 1, -1, 287, 288, math.MaxInt, math.MinInt} {
			if err := e.Put(&w, symbol); err != api.ErrMade {
				t.Errorf("Put(%d): %d", symbol, err)
			}
			if err := e.Put(nil, symbol); err != api.ErrMade {
				t.Errorf("Put(%d) into no writer: %d", symbol, err)
			}
			if n := e.Cost(symbol); n != 0 {
				t.Errorf("Cost(%d): %d", symbol, n)
			}
		}
	}
	if written(&w) != "1" {
		t.Errorf("it has laid down %q", written(&w))
	}
	for _, lens := range [][]int{{1, 1}, {}, {0, 0}} {
		e := encoder(t, lens)
		// Two faults at one time: no writer, and no such symbol.
		for _, symbol := range []int{0, 1, 2, -1} {
			if err := e.Put(nil, symbol); err != api.ErrMade {
				t.Errorf("lengths %v: Put(nil, %d): %d", lens, symbol, err)
			}
		}
	}
}

// P5.4

func TestNewDecoderTakesOneToMaxSymbols(t *testing.T) {
	for _, n := range []int{0, -1, 289, 290, math.MaxInt, math.MinInt, 1<<32 + 1} {
		if d, err := code.NewDecoder(n); d != nil || err != api.ErrArg {
			t.Errorf("NewDecoder(%d): %v, %d", n, d, err)
		}
	}
	for n := 1; n <= api.MaxSymbols; n++ {
		if d, err := code.NewDecoder(n); d == nil || err != api.OK {
			t.Errorf("NewDecoder(%d): %v, %d", n, d, err)
		}
	}
}

func TestDecoderHasNoCodeAtFirst(t *testing.T) {
	for _, n := range []int{1, 2, 30, 287, 288} {
		d, _ := code.NewDecoder(n)
		for _, text := range []string{"", "0", "1", "0000000", strings.Repeat("0", 15), strings.Repeat("1", 64)} {
			tryNext(t, d, nil, text)
		}
	}
}

func TestLoadTakesAsManyAsThereIsRoomFor(t *testing.T) {
	r := rolls(3)
	for n := 1; n <= api.MaxSymbols; n++ {
		lens := []int{1}
		if n > 1 {
			lens = r.whole(2+r.below(n-1), n)
		}
		d := decoder(t, n, lens)
		for range 3 {
			tryNext(t, d, texts(lens), r.text(20))
		}
		// One more, though it has no code; and one more that has.
		for _, more := range [][]int{append(slices.Clone(lens), 0), append(slices.Clone(lens), 1), same(n+1, 0)} {
			if err := d.Load(more); err != api.ErrCodeLen {
				t.Errorf("Load of %d lengths, with room for %d: %d", len(more), n, err)
			}
		}
		tryNext(t, d, texts(lens), r.text(20))
	}
}

func TestLoadOfTheExample(t *testing.T) {
	d, _ := code.NewDecoder(4)
	if n, err := d.Room(), d.Load([]int{3, 3, 3, 3, 1}); n != 288 || err != api.ErrCodeLen {
		t.Errorf("Room %d, Load of five lengths: %d", n, err)
	}
}

// More lengths than there is room for, and one more fault: the room is looked at first.
func TestLoadOfTwoFaults(t *testing.T) {
	d := decoder(t, 3, []int{1, 2, 2})
	for _, lens := range [][]int{{1, 1, 1, 1}, {2, 2, 0, 0}, {2, 0, 0, 0}, {-1, 0, 0, 0}, {16, 1, 1, 1}, same(289, 1), same(289, 15)} {
		if err := d.Load(lens); err != api.ErrCodeLen {
			t.Errorf("Load(%v): %d", lens, err)
		}
	}
	tryNext(t, d, []string{"0", "10", "11"}, "101")
}

// Behind an error the decoder has the code that it had, or none.
func TestLoadKeepsTheCodeBesideAnError(t *testing.T) {
	for _, lens := range [][]int{nil, {0, 0}, {1}, {0, 1}, {2, 1, 3, 3}, plain(), stairs(2)} {
		d := decoder(t, api.MaxSymbols, lens)
		fresh, _ := code.NewDecoder(api.MaxSymbols)
		r := rolls(11)
		for _, c := range wrongOnes() {
			if err := d.Load(c.lens); err != c.err {
				t.Errorf("Load(%v): %d, not %d", c.lens, err, c.err)
			}
			if err := fresh.Load(c.lens); err != c.err {
				t.Errorf("Load(%v): %d, not %d", c.lens, err, c.err)
			}
			for _, text := range []string{"", "0", "1", r.text(3), r.text(15), r.text(40)} {
				tryNext(t, d, texts(lens), text)
				tryNext(t, fresh, nil, text)
			}
		}
	}
}

// Each code over each other one: nothing of the one ahead is left.
func TestLoadOverAnotherCode(t *testing.T) {
	r := rolls(21)
	all := slices.Concat(wholeOnes(), openOnes())
	d, _ := code.NewDecoder(api.MaxSymbols)
	for _, first := range all {
		for _, second := range all {
			if err := d.Load(first); err != api.OK {
				t.Fatalf("Load(%v): %d", first, err)
			}
			if err := d.Load(second); err != api.OK {
				t.Fatalf("Load(%v): %d", second, err)
			}
			codes := texts(second)
			for _, text := range []string{"", r.text(1), r.text(5), r.text(15)} {
				tryNext(t, d, codes, text)
			}
		}
	}
}

func TestDecodersThatNoCallMade(t *testing.T) {
	for _, d := range []*code.Decoder{nil, {}, new(code.Decoder)} {
		for _, lens := range [][]int{nil, {1}, {1, 1}, {16}, {1, 1, 1}, {2}, same(289, 0)} {
			if err := d.Load(lens); err != api.ErrMade {
				t.Errorf("Load(%v): %d", lens, err)
			}
		}
		r := holding(t, "0110")
		if s, ok, err := d.Next(r); s != 0 || ok || err != api.ErrMade || held(r) != "0110" {
			t.Errorf("Next: %d, %v, %d", s, ok, err)
		}
		if s, ok, err := d.Next(nil); s != 0 || ok || err != api.ErrMade {
			t.Errorf("Next of no reader: %d, %v, %d", s, ok, err)
		}
		if n := d.Room(); n != 0 {
			t.Errorf("Room: %d", n)
		}
	}
	for _, lens := range [][]int{nil, {0, 0}, {0, 1}, {1, 1}} {
		d := decoder(t, 2, lens)
		if s, ok, err := d.Next(nil); s != 0 || ok || err != api.ErrMade {
			t.Errorf("lengths %v: Next of no reader: %d, %v, %d", lens, s, ok, err)
		}
	}
}

// P5.5

func TestNextOfTheExamples(t *testing.T) {
	d := decoder(t, 4, []int{2, 1, 3, 3})
	if s, ok, err := d.Next(holding(t, "11")); s != 0 || ok || err != api.OK {
		t.Errorf("over 11: %d, %v, %d", s, ok, err)
	}
	r := holding(t, "1100")
	for _, want := range []int{2, 1} {
		if s, ok, err := d.Next(r); s != want || !ok || err != api.OK {
			t.Errorf("over 1100: %d, %v, %d; it must be %d", s, ok, err, want)
		}
	}
	if s, ok, err := d.Next(r); s != 0 || ok || err != api.OK || r.Has() != 0 {
		t.Errorf("over none: %d, %v, %d", s, ok, err)
	}
	d.Load([]int{0, 1})
	one := holding(t, "1")
	if s, ok, err := d.Next(one); s != 0 || ok || err != api.ErrCodeForm || one.Has() != 1 {
		t.Errorf("of 0, 1 over 1: %d, %v, %d", s, ok, err)
	}
	if s, ok, err := d.Next(holding(t, "")); s != 0 || ok || err != api.OK {
		t.Errorf("of 0, 1 over none: %d, %v, %d", s, ok, err)
	}
	d.Load([]int{0, 0})
	if s, ok, err := d.Next(holding(t, "")); s != 0 || ok || err != api.ErrCodeForm {
		t.Errorf("of 0, 0 over none: %d, %v, %d", s, ok, err)
	}
}

// Of each code each of its codes: a bit less, just as many bits, and more.
func TestNextOverEachCode(t *testing.T) {
	r := rolls(31)
	for _, lens := range slices.Concat(wholeOnes(), openOnes(), [][]int{full()}) {
		codes := texts(lens)
		d := decoder(t, api.MaxSymbols, lens)
		tryNext(t, d, codes, "")
		for _, text := range codes {
			if text == "" {
				continue
			}
			tryNext(t, d, codes, text)
			tryNext(t, d, codes, text[:len(text)-1])
			tryNext(t, d, codes, text[:r.below(len(text))])
			tryNext(t, d, codes, text+r.text(1))
			tryNext(t, d, codes, text+r.text(1+r.below(64-len(text))))
		}
	}
}

// All rows of up to nine bits, over codes of all kinds.
func TestNextOverAllShortRows(t *testing.T) {
	for _, lens := range [][]int{nil, {0, 0}, {1}, {0, 1}, {1, 1}, {2, 1, 3, 3}, {1, 0, 2, 0, 3, 4, 5, 6, 7, 8, 8}, {3, 3, 3, 3, 3, 2, 4, 4}, stairs(2), plain()} {
		codes := texts(lens)
		d := decoder(t, api.MaxSymbols, lens)
		for n := range 10 {
			for v := range 1 << n {
				text := ""
				for i := range n {
					text += string(rune('0' + v>>i&1))
				}
				tryNext(t, d, codes, text)
			}
		}
	}
}

// Just 14, 15, 16, 56, 57 and 64 bits held, whatever the code's length.
func TestNextLooksAtNoMoreThanMaxLen(t *testing.T) {
	r := rolls(41)
	for _, lens := range slices.Concat(wholeOnes(), openOnes()) {
		codes := texts(lens)
		d := decoder(t, api.MaxSymbols, lens)
		for _, n := range []int{14, 15, 16, 55, 56, 57, 63, 64} {
			tryNext(t, d, codes, r.text(n))
			tryNext(t, d, codes, strings.Repeat("1", n))
			tryNext(t, d, codes, strings.Repeat("0", n))
			tryNext(t, d, codes, strings.Repeat("1", 14)+r.text(n-14))
		}
	}
}

func TestNextOfACodeOfOneSymbol(t *testing.T) {
	for _, symbol := range []int{0, 1, 143, 287} {
		lens := make([]int, api.MaxSymbols)
		lens[symbol] = 1
		d := decoder(t, api.MaxSymbols, lens)
		r := holding(t, "0010")
		for range 2 {
			if s, ok, err := d.Next(r); s != symbol || !ok || err != api.OK {
				t.Errorf("symbol %d over a bit 0: %d, %v, %d", symbol, s, ok, err)
			}
		}
		for range 2 {
			if s, ok, err := d.Next(r); s != 0 || ok || err != api.ErrCodeForm || r.Has() != 2 {
				t.Errorf("symbol %d over a bit 1: %d, %v, %d", symbol, s, ok, err)
			}
		}
		for _, text := range []string{"", "0", "1", "01", "10", "11", strings.Repeat("1", 64), strings.Repeat("0", 64)} {
			tryNext(t, d, texts(lens), text)
		}
	}
}

// The bits fed byte by byte, and Next asked at every moment, tell the same symbols, each as soon as its bits are there.
func TestNextOverBitsFedInPieces(t *testing.T) {
	r := rolls(51)
	for _, lens := range slices.Concat(wholeOnes(), [][]int{full(), {0, 1}}) {
		codes := texts(lens)
		e, d := encoder(t, lens), decoder(t, len(lens), lens)
		var w bits.Writer
		var symbols, ends []int
		for range 200 {
			symbol := r.below(len(lens))
			if codes[symbol] != "" && e.Put(&w, symbol) == api.OK {
				symbols, ends = append(symbols, symbol), append(ends, w.Len())
			}
		}
		var from bits.Reader
		got, p := 0, w.Bytes()
		for fed := 0; fed < len(p); {
			n := from.Feed(p[fed:min(len(p), fed+r.below(4))])
			fed += n
			for got < len(symbols) && ends[got] <= 8*fed {
				if s, ok, err := d.Next(&from); s != symbols[got] || !ok || err != api.OK || from.Taken() != ends[got] {
					t.Fatalf("lengths %v: symbol %d of the row: %d, %v, %d, not %d", lens, got, s, ok, err, symbols[got])
				}
				got++
			}
			if got == len(symbols) {
				break
			}
			has := from.Has()
			if s, ok, err := d.Next(&from); s != 0 || ok || err != api.OK || from.Has() != has {
				t.Fatalf("lengths %v: over a part of symbol %d: %d, %v, %d", lens, got, s, ok, err)
			}
		}
		if got != len(symbols) {
			t.Fatalf("lengths %v: %d symbols of %d", lens, got, len(symbols))
		}
	}
}

// P5.6

func TestRoom(t *testing.T) {
	for n := 1; n <= api.MaxSymbols; n++ {
		d, _ := code.NewDecoder(n)
		asked := func(what string) {
			if got := d.Room(); got != 8*n+256 {
				t.Errorf("NewDecoder(%d), %s: Room %d", n, what, got)
			}
		}
		asked("nothing loaded")
		d.Load([]int{1})
		asked("one symbol")
		d.Next(holding(t, "0101"))
		asked("a symbol taken")
		d.Load(same(n, 0))
		asked("no symbol")
		d.Load(same(n+1, 0))
		asked("too many lengths")
		d.Load([]int{16})
		asked("a length that may not be")
		d.Next(nil)
		asked("no reader")
		if n > 1 {
			r := rolls(n)
			d.Load(r.whole(n, n))
			asked("all symbols")
		}
	}
	if a, b := decoder(t, 4, []int{2, 1, 3, 3}), decoder(t, 288, plain()); a.Room() != 288 || b.Room() != 2560 {
		t.Errorf("Room: %d, %d", a.Room(), b.Room())
	}
}

// P5.7

// What is laid down is taken up, with other bits ahead of it and behind it.
func TestWhatIsLaidDownIsTakenUp(t *testing.T) {
	r := rolls(61)
	for _, lens := range slices.Concat(wholeOnes(), openOnes(), [][]int{full()}) {
		e, d := encoder(t, lens), decoder(t, api.MaxSymbols, lens)
		for symbol, l := range lens {
			if l == 0 {
				continue
			}
			var w bits.Writer
			lead := r.below(8)
			w.Put(uint64(r.below(1<<lead)), lead)
			e.Put(&w, symbol)
			e.Put(&w, symbol)
			w.Put(uint64(r.below(1<<20)), 20)
			var from bits.Reader
			from.Feed(w.Bytes())
			from.Take(lead)
			for i := range 2 {
				s, ok, err := d.Next(&from)
				if s != symbol || !ok || err != api.OK || from.Taken() != lead+(i+1)*l {
					t.Fatalf("lengths %v: symbol %d is taken up as %d, %v, %d", lens, symbol, s, ok, err)
				}
			}
		}
	}
}

func TestNoCodeBeginsAnotherOne(t *testing.T) {
	for _, lens := range slices.Concat(wholeOnes(), openOnes(), [][]int{full()}) {
		codes, _ := code.Codes(lens)
		for i, a := range lens {
			if codes[i]>>a != 0 {
				t.Fatalf("lengths %v: symbol %d has %b, of more than %d bits", lens, i, codes[i], a)
			}
			for j, b := range lens {
				if i != j && a > 0 && a <= b && codes[j]>>(b-a) == codes[i] {
					t.Fatalf("lengths %v: the code of %d begins that of %d", lens, i, j)
				}
			}
		}
	}
}

// P5.8

// Every row of MaxLen bits begins with just one code, and the decoder takes just that one.
func TestEveryRowBeginsWithOneCode(t *testing.T) {
	for _, lens := range append(wholeOnes(), full()) {
		codes, _ := code.Codes(lens)
		d := decoder(t, api.MaxSymbols, lens)
		begun := make([][]int, 1<<api.MaxLen)
		for symbol, l := range lens {
			if l > 0 {
				low := codes[symbol] << (api.MaxLen - l)
				for row := low; row < low+1<<(api.MaxLen-l); row++ {
					begun[row] = append(begun[row], symbol)
				}
			}
		}
		for row, symbols := range begun {
			if len(symbols) != 1 {
				t.Fatalf("lengths %v: %015b begins with the codes of %v", lens, row, symbols)
			}
			var from bits.Reader
			turned := bits.Flip(uint64(row), api.MaxLen)
			from.Feed([]byte{byte(turned << 1), byte(turned >> 7)})
			from.Take(1)
			s, ok, err := d.Next(&from)
			if s != symbols[0] || !ok || err != api.OK || from.Taken() != 1+lens[s] {
				t.Fatalf("lengths %v: Next over %015b: %d, %v, %d, not %v", lens, row, s, ok, err, symbols)
			}
		}
	}
}

// P5.9

// The rows of MaxLen bits that begin with a code, counted one by one, are the space: all of them, half of them, or none.
func TestSpaceCountedByCodes(t *testing.T) {
	tried := map[int]int{}
	for _, lens := range slices.Concat(wholeOnes(), openOnes(), lists(4, 0, 1, 2, 3), [][]int{full()}) {
		codes, err := code.Codes(lens)
		if err != api.OK {
			continue
		}
		rows := make([]int, 1<<api.MaxLen)
		for symbol, l := range lens {
			if l > 0 {
				low := codes[symbol] << (api.MaxLen - l)
				for row := low; row < low+1<<(api.MaxLen-l); row++ {
					rows[row] = 1
				}
			}
		}
		count := 0
		for _, n := range rows {
			count += n
		}
		_, used := spaceOf(lens)
		space, err := code.Space(lens)
		if err != api.OK || space != count {
			t.Fatalf("Space(%v): %d, %d; counted by codes it is %d", lens, space, err, count)
		}
		switch {
		case count == 1<<15, count == 1<<14 && used == 1, count == 0 && used == 0:
			tried[count]++
		default:
			t.Fatalf("lengths %v may not be: %d codes, space %d", lens, used, count)
		}
	}
	if len(tried) != 3 {
		t.Errorf("the cases tried: %v", tried)
	}
}

// R3, R4

// What is handed in is not changed, nor what lies behind its end.
func TestLengthsStayAsTheyAre(t *testing.T) {
	for _, lens := range [][]int{{2, 1, 3, 3}, {0, 1}, {0, 0}, plain(), {1, 1, 1}, {2, 2}, {1, 16, -1}, nil} {
		room := append(slices.Clone(lens), 7, 7, 7)
		given := room[:len(lens)]
		code.Check(given)
		code.Space(given)
		code.Codes(given)
		if e, err := code.NewEncoder(given); err == api.OK {
			var w bits.Writer
			e.Put(&w, 1)
		}
		d, _ := code.NewDecoder(api.MaxSymbols)
		d.Load(given)
		d.Next(holding(t, "0101"))
		if !slices.Equal(room, append(slices.Clone(lens), 7, 7, 7)) {
			t.Errorf("lengths %v are now %v", lens, room)
		}
	}
}

// What is handed in is not kept.
func TestLengthsMayBeChangedBehindTheCall(t *testing.T) {
	lens := []int{2, 1, 3, 3}
	e, d := encoder(t, lens), decoder(t, 4, lens)
	codes, _ := code.Codes(lens)
	clear(lens)
	lens[3] = 99
	var w bits.Writer
	for symbol, want := range []int{2, 1, 3, 3} {
		if err := e.Put(&w, symbol); err != api.OK || e.Cost(symbol) != want {
			t.Errorf("symbol %d: %d, cost %d", symbol, err, e.Cost(symbol))
		}
	}
	if written(&w) != "100110111" {
		t.Errorf("it has laid down %q", written(&w))
	}
	tryNext(t, d, []string{"10", "0", "110", "111"}, "110")
	if !slices.Equal(codes, []int{2, 0, 6, 7}) {
		t.Errorf("the codes are now %v", codes)
	}
}

// An answer is new memory.
func TestCodesAreNewMemory(t *testing.T) {
	lens := []int{2, 1, 3, 3}
	e := encoder(t, lens)
	first, _ := code.Codes(lens)
	for i := range first[:cap(first)] {
		first[:cap(first)][i] = -1
	}
	second, _ := code.Codes(lens)
	var w bits.Writer
	e.Put(&w, 3)
	if !slices.Equal(second, []int{2, 0, 6, 7}) || !slices.Equal(lens, []int{2, 1, 3, 3}) || written(&w) != "111" {
		t.Errorf("behind a change of the answer: %v of %v, %q", second, lens, written(&w))
	}
}

// Two objects know nothing of each other.
func TestObjectsStandAlone(t *testing.T) {
	a, b := decoder(t, 288, plain()), decoder(t, 288, []int{2, 1, 3, 3})
	c, _ := code.NewDecoder(288)
	for _, text := range []string{"", "1", "110", "001100001"} {
		tryNext(t, a, texts(plain()), text)
		tryNext(t, b, []string{"10", "0", "110", "111"}, text)
		tryNext(t, c, nil, text)
	}
	x, y := encoder(t, []int{1, 1}), encoder(t, []int{2, 1, 3, 3})
	var v, w bits.Writer
	x.Put(&v, 1)
	y.Put(&w, 3)
	x.Put(&v, 0)
	if written(&v) != "10" || written(&w) != "111" || x.Put(&v, 2) != api.ErrCodeSymbol || y.Cost(2) != 3 {
		t.Errorf("two encoders: %q, %q", written(&v), written(&w))
	}
}
