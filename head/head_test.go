package head_test

import (
	"bytes"
	"compress/flate"
	"io"
	"math"
	"slices"
	"strings"
	"testing"

	"sapper/api"
	"sapper/bits"
	"sapper/code"
	"sapper/head"
	"sapper/lens"
)

// rolls: numbers that follow no pattern and are the same at each run.
type rolls uint64

// below: a number from 0 on, below n.
func (r *rolls) below(n int) int {
	*r = *r*6364136223846793005 + 1442695040888963407
	return int(uint64(*r>>33) % uint64(n))
}

// lengths: so many, in stretches up to so long.
func (r *rolls) lengths(n, stretch int) []int {
	var out []int
	for len(out) < n {
		v := r.below(api.MaxLen + 1)
		if r.below(3) == 0 {
			v = 0
		}
		out = append(out, many(v, 1+r.below(stretch))...)
	}
	return out[:n]
}

// code: lengths that code.Check takes, of so many symbols, of which some have none; that of must has one (-1: of no symbol).
func (r *rolls) code(n, must int) []int {
	freq := make([]int, n)
	used, great := r.below(n+1), 1+r.below(1000)
	for range used {
		freq[r.below(n)] = 1 + r.below(great)
	}
	if must >= 0 {
		freq[must] = 1 + r.below(great)
	}
	limit := 9 + r.below(7)
	out, err := lens.Lengths(limit, freq...)
	if err != api.OK {
		panic("no code")
	}
	return out
}

// pair: LIT and DIST that can be told.
func (r *rolls) pair() ([]int, []int) {
	lit := r.code(257+r.below(30), 256)
	if n := r.below(31); n > 0 {
		return lit, r.code(n, -1)
	}
	return lit, nil
}

// many: a length so many times.
func many(v, n int) []int { return slices.Repeat([]int{v}, n) }

// joined: lists one behind the other.
func joined(l ...[]int) []int { return slices.Concat(l...) }

// run: one.
func run(symbol, count int) api.Run { return api.Run{Symbol: symbol, Count: count} }

// row: of symbols and counts in turn.
func row(l ...int) []api.Run {
	var out []api.Run
	for i := 0; i < len(l); i += 2 {
		out = append(out, run(l[i], l[i+1]))
	}
	return out
}

// runsOf: as the chapter's words have it.
func runsOf(l []int) []api.Run {
	if len(l) == 0 {
		return nil
	}
	v, k := l[0], 1
	for k < len(l) && l[k] == v {
		k++
	}
	if v == 0 {
		first := run(0, 1)
		if k >= 11 {
			first = run(18, min(k, 138))
		} else if k >= 3 {
			first = run(17, k)
		}
		return append([]api.Run{first}, runsOf(l[first.Count:])...)
	}
	out, others := row(v, 1), k-1
	for others >= 3 {
		n := min(others, 6)
		out = append(out, run(16, n))
		others -= n
	}
	return append(out, runsOf(l[k-others:])...)
}

// lensOf: likewise; false: they say none.
func lensOf(runs []api.Run) ([]int, bool) {
	var out []int
	for _, r := range runs {
		v, fewest, most := r.Symbol, 1, 1
		switch {
		case r.Symbol < 0 || r.Symbol > 18:
			return nil, false
		case r.Symbol == 16:
			if len(out) == 0 {
				return nil, false
			}
			v, fewest, most = out[len(out)-1], 3, 6
		case r.Symbol == 17:
			v, fewest, most = 0, 3, 10
		case r.Symbol == 18:
			v, fewest, most = 0, 11, 138
		}
		if r.Count < fewest || r.Count > most {
			return nil, false
		}
		out = append(out, many(v, r.Count)...)
		if len(out) > 320 {
			return nil, false
		}
	}
	return out, true
}

// inRoom: the list with marks in the room behind its end.
func inRoom(l []int) []int {
	out := make([]int, len(l), len(l)+8)
	copy(out, l)
	for i := range out[:cap(out)][len(l):] {
		out[:cap(out)][len(l)+i] = 77
	}
	return out
}

// roomTouched: is one of the marks gone?
func roomTouched(l []int) bool {
	return slices.ContainsFunc(l[len(l):cap(l)], func(v int) bool { return v != 77 })
}

// P8.1

func TestRunsExamples(t *testing.T) {
	for i, c := range []struct {
		lens []int
		want []api.Run
	}{
		{nil, nil},
		{many(0, 1), row(0, 1)},
		{many(0, 2), row(0, 1, 0, 1)},
		{many(0, 3), row(17, 3)},
		{many(0, 10), row(17, 10)},
		{many(0, 11), row(18, 11)},
		{many(0, 138), row(18, 138)},
		{many(0, 139), row(18, 138, 0, 1)},
		{many(0, 141), row(18, 138, 17, 3)},
		{many(0, 276), row(18, 138, 18, 138)},
		{many(0, 320), row(18, 138, 18, 138, 18, 44)},
		{many(5, 1), row(5, 1)},
		{many(5, 2), row(5, 1, 5, 1)},
		{many(5, 3), row(5, 1, 5, 1, 5, 1)},
		{many(5, 4), row(5, 1, 16, 3)},
		{many(5, 7), row(5, 1, 16, 6)},
		{many(5, 8), row(5, 1, 16, 6, 5, 1)},
		{many(5, 9), row(5, 1, 16, 6, 5, 1, 5, 1)},
		{many(5, 10), row(5, 1, 16, 6, 16, 3)},
		{many(5, 13), row(5, 1, 16, 6, 16, 6)},
		{[]int{0, 15, 15, 0, 0, 0, 15}, row(0, 1, 15, 1, 15, 1, 17, 3, 15, 1)},
	} {
		if got, err := head.Runs(c.lens...); err != api.OK || !slices.Equal(got, c.want) {
			t.Errorf("row %d: %v %d", i, got, err)
		}
	}
}

func TestRunsOfEveryStretch(t *testing.T) {
	for v := range api.MaxLen + 1 {
		for k := 1; k <= 320; k++ {
			l := many(v, k)
			got, err := head.Runs(l...)
			if err != api.OK || !slices.Equal(got, runsOf(l)) {
				t.Fatalf("%d, %d times: %v %d", v, k, got, err)
			}
		}
	}
}

func TestRunsOfManyLists(t *testing.T) {
	r := rolls(1)
	for range 3000 {
		l := r.lengths(r.below(321), 1+r.below(20))
		got, err := head.Runs(l...)
		if err != api.OK || !slices.Equal(got, runsOf(l)) {
			t.Fatalf("%v: %v %d", l, got, err)
		}
	}
}

func TestRunsRefusesLengths(t *testing.T) {
	for _, v := range []int{-1, 16, math.MinInt, math.MaxInt} {
		for _, at := range []int{0, 7, 319} {
			l := many(3, 320)
			l[at] = v
			if got, err := head.Runs(l...); err != api.ErrHeadLens || len(got) != 0 {
				t.Errorf("%d at %d: %v %d", v, at, got, err)
			}
		}
	}
	for _, n := range []int{321, 322, 5000} {
		for _, v := range []int{0, 5} {
			if got, err := head.Runs(many(v, n)...); err != api.ErrHeadLens || len(got) != 0 {
				t.Errorf("%d lengths: %v %d", n, got, err)
			}
		}
	}
}

// P8.2

func TestLensExamples(t *testing.T) {
	for i, c := range []struct {
		runs []api.Run
		want []int
	}{
		{nil, nil},
		{row(5, 1, 16, 3), many(5, 4)},
		{row(5, 1, 16, 6, 16, 6), many(5, 13)},
		{row(0, 1, 16, 3), many(0, 4)},
		{row(17, 3, 16, 3), many(0, 6)},
		{row(4, 1, 18, 11, 16, 4), joined(many(4, 1), many(0, 15))},
		{row(1, 1, 2, 1, 16, 3, 3, 1, 0, 1), []int{1, 2, 2, 2, 2, 3, 0}},
	} {
		if got, err := head.Lens(c.runs...); err != api.OK || !slices.Equal(got, c.want) {
			t.Errorf("row %d: %v %d", i, got, err)
		}
	}
}

func TestLensRefusesRuns(t *testing.T) {
	for i, runs := range [][]api.Run{
		row(16, 3), row(5, 2), row(17, 11), row(18, 10), row(19, 1), row(18, 138, 18, 138, 18, 138),
		row(-1, 1), row(math.MinInt, 1), row(math.MaxInt, 1), row(20, 11),
		row(5, 1, 5, 0), row(0, math.MinInt), row(18, math.MaxInt), row(17, math.MinInt), row(1, 1, 16, math.MaxInt),
		row(16, 3, 5, 1), row(5, 1, 19, 3),
	} {
		if got, err := head.Lens(runs...); err != api.ErrHeadForm || len(got) != 0 {
			t.Errorf("row %d: %v %d", i, got, err)
		}
	}
}

func TestLensTakesTheCountsOfEachSymbol(t *testing.T) {
	for symbol := range 19 {
		for count := -2; count <= 140; count++ {
			runs := row(7, 1, symbol, count)
			want, ok := lensOf(runs)
			got, err := head.Lens(runs...)
			if ok != (err == api.OK) || !ok && err != api.ErrHeadForm || !slices.Equal(got, want) {
				t.Errorf("symbol %d, %d times: %v %d", symbol, count, got, err)
			}
		}
	}
}

func TestLensOfJust320(t *testing.T) {
	ahead := row(18, 138, 18, 138) // 276, so that 44 are left
	for _, c := range []struct {
		runs []api.Run
		n    int
	}{
		{row(18, 44), 320},
		{row(18, 43), 319},
		{row(18, 45), 0},
		{row(18, 41, 16, 3), 320},
		{row(18, 41, 16, 4), 0},
		{row(18, 34, 17, 10), 320},
		{row(18, 35, 17, 10), 0},
		{row(18, 43, 9, 1), 320},
		{row(18, 44, 9, 1), 0},
		{row(18, 44, 0, 1), 0},
		{row(18, 44, 16, 3), 0},
	} {
		got, err := head.Lens(append(slices.Clone(ahead), c.runs...)...)
		if len(got) != c.n || (err == api.OK) != (c.n > 0) || c.n == 0 && err != api.ErrHeadForm {
			t.Errorf("%v: %d lengths, %d", c.runs, len(got), err)
		}
	}
}

func TestLensOfManyRuns(t *testing.T) {
	r := rolls(2)
	good := 0
	for range 5000 {
		var runs []api.Run
		for range r.below(12) {
			symbol := r.below(20)
			count := 1
			switch {
			case r.below(20) == 0:
				count = r.below(200) - 20
			case symbol == 16:
				count = 3 + r.below(4)
			case symbol == 17:
				count = 3 + r.below(8)
			case symbol == 18:
				count = 11 + r.below(128)
			}
			runs = append(runs, run(symbol, count))
		}
		want, ok := lensOf(runs)
		got, err := head.Lens(runs...)
		if ok != (err == api.OK) || !ok && err != api.ErrHeadForm || !slices.Equal(got, want) {
			t.Fatalf("%v: %v %d", runs, got, err)
		}
		if ok {
			good++
		}
	}
	if good < 1000 {
		t.Error("too few rows say lengths:", good)
	}
}

// P8.7

func TestLensOfRunsAreTheLengths(t *testing.T) {
	r := rolls(3)
	for i := range 3000 {
		l := r.lengths(i%321, 1+r.below(40))
		runs, err := head.Runs(l...)
		got, err2 := head.Lens(runs...)
		if err != api.OK || err2 != api.OK || !slices.Equal(got, l) {
			t.Fatalf("%v: %v %d %d", l, got, err, err2)
		}
	}
}

// The bits of a head, as texts of 0 and 1.

// number: the n bits of v, the lowest first.
func number(v, n int) string {
	var out strings.Builder
	for i := range n {
		out.WriteByte(byte('0' + v>>i&1))
	}
	return out.String()
}

// turned: the n bits of v, the highest first.
func turned(v, n int) string {
	b := []byte(number(v, n))
	slices.Reverse(b)
	return string(b)
}

// order: of the nineteen sizes.
func order() []int {
	return []int{16, 17, 18, 0, 8, 7, 9, 6, 10, 5, 11, 4, 12, 3, 13, 2, 14, 1, 15}
}

// front: the counts, and the first c sizes.
func front(a, b, c int, sizes []int) string {
	out := number(a-257, 5) + number(b-1, 5) + number(c-4, 4)
	for _, symbol := range order()[:c] {
		out += number(sizes[symbol], 3)
	}
	return out
}

// back: the runs, by a code of these sizes.
func back(sizes []int, runs ...api.Run) string {
	codes, err := code.Codes(sizes)
	if err != api.OK {
		panic("no code")
	}
	out := ""
	for _, r := range runs {
		out += turned(codes[r.Symbol], sizes[r.Symbol])
		switch r.Symbol {
		case 16:
			out += number(r.Count-3, 2)
		case 17:
			out += number(r.Count-3, 3)
		case 18:
			out += number(r.Count-11, 7)
		}
	}
	return out
}

// toldSizes: how many sizes are told.
func toldSizes(sizes []int) int {
	c := 4
	for i, symbol := range order() {
		if sizes[symbol] != 0 {
			c = max(c, i+1)
		}
	}
	return c
}

// without: the noughts at the end, but at least so many.
func without(l []int, n int) []int {
	out := slices.Clone(l)
	for len(out) > n && out[len(out)-1] == 0 {
		out = out[:len(out)-1]
	}
	for len(out) < n {
		out = append(out, 0)
	}
	return out
}

// sizesOf: of the runs' symbols.
func sizesOf(runs []api.Run) []int {
	freq := make([]int, 19)
	for _, r := range runs {
		freq[r.Symbol]++
	}
	out, err := lens.Lengths(7, freq...)
	if err != api.OK {
		panic("no code")
	}
	return out
}

// headOf: the bits of the head of these lengths.
func headOf(lit, dist []int) string {
	l, d := without(lit, 257), without(dist, 1)
	runs := runsOf(joined(l, d))
	sizes := sizesOf(runs)
	return front(len(l), len(d), toldSizes(sizes), sizes) + back(sizes, runs...)
}

// packed: bits as bytes.
func packed(row string) []byte {
	out := make([]byte, (len(row)+7)/8)
	for i := range len(row) {
		out[i/8] |= (row[i] - '0') << (i % 8)
	}
	return out
}

// written: what Write lays down, as a text.
func written(t *testing.T, lit, dist []int) string {
	t.Helper()
	var w bits.Writer
	if err := head.Write(&w, lit, dist); err != api.OK {
		t.Fatal("Write:", err, lit, dist)
	}
	return text(w.Bytes(), w.Len())
}

// text: the first n bits of bytes.
func text(p []byte, n int) string {
	var out strings.Builder
	for i := range n {
		out.WriteByte('0' + p[i/8]>>(i%8)&1)
	}
	return out.String()
}

// flat: a code of n symbols, 257 or more, all of which have 8 bits or 9.
func flat(n int) []int {
	out := many(9, n)
	for i := range 512 - n {
		out[i] = 8
	}
	return out
}

// P8.3

func TestHeadExample(t *testing.T) {
	lit := joined(many(1, 1), many(0, 255), many(1, 1))
	sizes := make([]int, 19)
	sizes[0], sizes[1], sizes[18] = 2, 2, 1
	want := front(257, 1, 18, sizes) + back(sizes, row(1, 1, 18, 138, 18, 117, 1, 1, 0, 1)...)
	if got := written(t, lit, nil); got != want || len(got) != 90 {
		t.Error(got, "for", want)
	}
	if n, err := head.Cost(lit, nil); n != 90 || err != api.OK {
		t.Error("Cost", n, err)
	}
}

// pairs: LIT and DIST that can be told, at the edges.
func pairs() [][2][]int {
	lone := joined(many(0, 256), many(1, 1))
	two := joined(many(1, 1), many(0, 255), many(1, 1))
	steps := make([]int, 286)
	for i := range 15 {
		steps[i] = i + 1
	}
	steps[256] = 15
	chain := []int{1, 2, 3, 4, 5, 6, 7, 8, 9, 10, 11, 12, 13, 14, 15, 15}
	return [][2][]int{
		{lone, nil},
		{lone, many(0, 1)},
		{lone, many(0, 30)},
		{lone, []int{1}},
		{lone, joined(many(0, 29), many(1, 1))},
		{two, []int{1, 1}},
		{joined(two, many(0, 29)), []int{1, 1, 0, 0, 0}},
		{joined(two, many(0, 1)), joined(many(0, 3), []int{1, 1}, many(0, 25))},
		{flat(257), nil},
		{flat(286), joined([]int{4, 4}, many(5, 28))},
		{flat(286), many(0, 30)},
		{steps, chain},
		{steps, joined(many(0, 14), chain)},
		{steps, joined(chain, many(0, 14))},
		// Runs that go over from LIT to DIST: of noughts, and of one length.
		{joined(many(0, 255), []int{1, 1}), joined(many(0, 20), []int{1})},
		{joined(many(0, 255), []int{1, 1}), []int{1, 1}},
		{joined(many(0, 249), many(3, 8)), many(3, 8)},
		{joined(many(0, 241), many(4, 16)), many(4, 16)},
	}
}

func TestWriteLaysTheBitsOfTheHead(t *testing.T) {
	for i, p := range pairs() {
		want := headOf(p[0], p[1])
		if got := written(t, p[0], p[1]); got != want {
			t.Errorf("row %d: %s for %s", i, got, want)
		}
		if n, err := head.Cost(p[0], p[1]); err != api.OK || n != len(want) {
			t.Errorf("row %d: Cost %d %d for %d", i, n, err, len(want))
		}
	}
}

func TestWriteOfManyPairs(t *testing.T) {
	r := rolls(4)
	for range 600 {
		lit, dist := r.pair()
		want := headOf(lit, dist)
		if got := written(t, lit, dist); got != want {
			t.Fatalf("%v %v: %s for %s", lit, dist, got, want)
		}
		if n, err := head.Cost(lit, dist); err != api.OK || n != len(want) {
			t.Fatalf("%v %v: Cost %d %d for %d", lit, dist, n, err, len(want))
		}
	}
}

func TestWriteBehindOtherBits(t *testing.T) {
	r := rolls(5)
	for n := range 57 {
		lit, dist := r.pair()
		var w bits.Writer
		w.Put(1<<n-1, n)
		if err := head.Write(&w, lit, dist); err != api.OK {
			t.Fatal(err)
		}
		w.Put(2, 2)
		if got := text(w.Bytes(), w.Len()); got != strings.Repeat("1", n)+headOf(lit, dist)+"01" {
			t.Errorf("behind %d bits: %s", n, got)
		}
		if cost, _ := head.Cost(lit, dist); w.Len() != n+cost+2 {
			t.Errorf("behind %d bits: %d bits, Cost %d", n, w.Len(), cost)
		}
	}
}

// untellable: LIT and DIST that can't be told.
func untellable() [][2][]int {
	lone := joined(many(0, 256), many(1, 1))
	with := func(l []int, at, v int) []int {
		out := slices.Clone(l)
		out[at] = v
		return out
	}
	return [][2][]int{
		{nil, nil},
		{many(0, 1), nil},
		{many(8, 256), nil}, // one short, though it is a code
		{joined(lone, many(0, 30)), nil},
		{joined(lone, many(0, 5000)), nil},
		{lone, many(0, 31)},
		{lone, many(5, 32)},
		{lone, joined([]int{1, 1}, many(0, 29))},
		{lone, many(0, 5000)},
		{many(0, 257), nil},                     // 256 has no length
		{many(0, 286), []int{1}},                // likewise
		{joined(many(8, 256), many(0, 1)), nil}, // likewise, in a code
		{many(1, 257), nil},                     // too many codes
		{joined([]int{1, 1}, many(0, 254), many(1, 1)), nil},
		{joined(many(0, 256), many(2, 1)), nil}, // too few
		{joined(many(9, 1), many(0, 255), many(9, 1)), nil},
		{with(lone, 0, 16), nil},
		{with(lone, 0, -1), nil},
		{with(lone, 256, 16), nil},
		{with(lone, 256, -1), nil},
		{with(lone, 256, math.MinInt), nil},
		{lone, []int{1, 1, 1}},
		{lone, []int{2}},
		{lone, []int{2, 2}},
		{lone, []int{16}},
		{lone, []int{-1}},
		{lone, []int{1, math.MaxInt}},
		{lone, many(5, 30)},
	}
}

func TestWriteRefusesWhatCantBeTold(t *testing.T) {
	for i, p := range untellable() {
		var w bits.Writer
		w.Put(5, 3)
		if err := head.Write(&w, p[0], p[1]); err != api.ErrHeadLens || text(w.Bytes(), w.Len()) != "101" {
			t.Errorf("row %d: %d, %d bits", i, err, w.Len())
		}
		if n, err := head.Cost(p[0], p[1]); err != api.ErrHeadLens || n != 0 {
			t.Errorf("row %d: Cost %d %d", i, n, err)
		}
	}
}

func TestWriteWithoutAWriter(t *testing.T) {
	for _, p := range append(pairs()[:2], untellable()[:2]...) {
		if err := head.Write(nil, p[0], p[1]); err != api.ErrMade {
			t.Error(err)
		}
	}
}

// A block that another program takes: the head, and the end of the block behind it.
func TestWriteAsOthersReadIt(t *testing.T) {
	r := rolls(6)
	for range 300 {
		lit, dist := r.pair()
		codes, _ := code.Codes(lit)
		stream := "1" + number(2, 2) + headOf(lit, dist) + turned(codes[256], lit[256])
		var w bits.Writer
		w.Put(1, 1)
		w.Put(2, 2)
		head.Write(&w, lit, dist)
		w.Turned(uint64(codes[256]), lit[256])
		if !bytes.Equal(w.Bytes(), packed(stream)) {
			t.Fatal("other bits")
		}
		got, err := io.ReadAll(flate.NewReader(bytes.NewReader(w.Bytes())))
		if err != nil || len(got) != 0 {
			t.Fatalf("%v %v: %v %v", lit, dist, got, err)
		}
	}
}

// R3, R4

func TestFunctionsKeepAndChangeNothing(t *testing.T) {
	r := rolls(7)
	for range 100 {
		lit, dist := r.pair()
		l, d := inRoom(lit), inRoom(dist)
		runs, _ := head.Runs(l...)
		first, _ := head.Lens(runs...)
		asked := slices.Clone(runs)
		cost, _ := head.Cost(l, d)
		var w bits.Writer
		head.Write(&w, l, d)
		bytesThen := w.Bytes()
		if !slices.Equal(l, lit) || !slices.Equal(d, dist) || roomTouched(l) || roomTouched(d) || !slices.Equal(runs, asked) {
			t.Fatal("what was handed in has changed")
		}
		for i := range l {
			l[i] = 99
		}
		for i := range d {
			d[i] = 99
		}
		if !slices.Equal(runs, asked) || !bytes.Equal(w.Bytes(), bytesThen) || !slices.Equal(first, lit) {
			t.Fatal("what was handed in is kept")
		}
		_ = append(runs[:1], run(98, 98))
		_ = append(first[:1], 98)
		runs[0] = run(99, 99)
		first[0] = 99
		again, _ := head.Runs(lit...)
		secondCost, _ := head.Cost(lit, dist)
		second, _ := head.Lens(again...)
		if !slices.Equal(again, asked) || secondCost != cost || !slices.Equal(second, lit) {
			t.Fatal("another answer")
		}
	}
}
