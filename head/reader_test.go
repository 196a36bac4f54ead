package head_test

import (
	"bytes"
	"compress/flate"
	"slices"
	"strings"
	"testing"

	"sapper/api"
	"sapper/bits"
	"sapper/code"
	"sapper/head"
	"sapper/lens"
)

// reading: what a row of bits says, as the chapter's words have it.
type reading struct {
	ends         []int // behind how many bits each part is there
	whole, wrong bool  // behind the last of them
	lit, dist    []int
}

// at: how many bits are gone when n are there, and whether it has come to its end.
func (g reading) at(n int) (int, bool) {
	gone := 0
	for _, end := range g.ends {
		if end <= n {
			gone = end
		}
	}
	return gone, (g.whole || g.wrong) && g.ends[len(g.ends)-1] <= n
}

// strip: a row of bits from which parts are taken.
type strip struct {
	row string
	at  int
}

// number: of n bits, the lowest first.
func (s *strip) number(n int) (int, bool) {
	if len(s.row)-s.at < n {
		return 0, false
	}
	v := 0
	for i := range n {
		v |= int(s.row[s.at+i]-'0') << i
	}
	s.at += n
	return v, true
}

// symbol: of these codes; -1: there is none; false: it is not there yet.
func (s *strip) symbol(names []string) (int, bool) {
	for n := 1; n <= 7 && s.at+n <= len(s.row); n++ {
		begins := false
		for symbol, name := range names {
			begins = begins || strings.HasPrefix(name, s.row[s.at:s.at+n])
			if name == s.row[s.at:s.at+n] {
				s.at += n
				return symbol, true
			}
		}
		if !begins {
			s.at += n
			return -1, true
		}
	}
	return 0, false
}

// named: the codes with these sizes; of a symbol without one no bits.
func named(sizes []int) []string {
	codes, _ := code.Codes(sizes)
	out := make([]string, len(sizes))
	for symbol, size := range sizes {
		out[symbol] = turned(codes[symbol], size)
	}
	return out
}

// readingOf: from the first bit on.
func readingOf(row string) reading {
	s := &strip{row: row}
	var g reading
	if s.at+14 > len(row) {
		return g
	}
	a, _ := s.number(5)
	b, _ := s.number(5)
	c, _ := s.number(4)
	a, b, c = a+257, b+1, c+4
	g.ends = append(g.ends, s.at)
	if a > 286 || b > 30 {
		g.wrong = true
		return g
	}
	sizes := make([]int, 19)
	for _, symbol := range order()[:c] {
		v, there := s.number(3)
		if !there {
			return g
		}
		sizes[symbol] = v
		g.ends = append(g.ends, s.at)
	}
	if code.Check(sizes) != api.OK || slices.Max(sizes) == 0 {
		g.wrong = true
		return g
	}
	g.runs(s, a, b, named(sizes))
	return g
}

// runs: the parts of the runs.
func (g *reading) runs(s *strip, a, b int, names []string) {
	var all []int
	for len(all) < a+b {
		symbol, there := s.symbol(names)
		if !there {
			return
		}
		g.ends = append(g.ends, s.at)
		if symbol < 0 || symbol == 16 && len(all) == 0 {
			g.wrong = true
			return
		}
		v, count := symbol, 1
		if symbol > 15 {
			more, there := s.number([]int{2, 3, 7}[symbol-16])
			if !there {
				return
			}
			g.ends = append(g.ends, s.at)
			v, count = 0, more+[]int{3, 3, 11}[symbol-16]
			if symbol == 16 {
				v = all[len(all)-1]
			}
		}
		all = append(all, many(v, count)...)
	}
	if len(all) > a+b || code.Check(all[:a]) != api.OK || code.Check(all[a:]) != api.OK || all[256] == 0 {
		g.wrong = true
		return
	}
	g.whole, g.lit, g.dist = true, all[:a], all[a:]
}

// holding: a reader of bits that holds just these, at most 56.
func holding(row string) *bits.Reader {
	pad := (8 - len(row)%8) % 8
	r := &bits.Reader{}
	r.Feed(packed(strings.Repeat("1", pad) + row))
	r.Take(pad)
	return r
}

// agree: is what Step answered what the reading says, and what Lens tells?
func agree(t *testing.T, h *head.Reader, g reading, ended, done bool, err api.Errno) {
	t.Helper()
	if done != (ended && g.whole) || (err == api.ErrHeadForm) != (ended && g.wrong) || err != api.OK && err != api.ErrHeadForm {
		t.Fatalf("%v %d for whole %v, wrong %v, ended %v", done, err, g.whole, g.wrong, ended)
	}
	lit, dist := h.Lens()
	if done && (!slices.Equal(lit, g.lit) || !slices.Equal(dist, g.dist)) {
		t.Fatalf("Lens %v %v for %v %v", lit, dist, g.lit, g.dist)
	}
	if !done && (len(lit) != 0 || len(dist) != 0) {
		t.Fatalf("Lens %v %v ahead of the end", lit, dist)
	}
	if h.Room() != 747 {
		t.Fatal("Room", h.Room())
	}
}

// bitByBit: each bit comes alone; each part must be gone as soon as it is there, and no bit sooner.
func bitByBit(t *testing.T, h *head.Reader, row string) {
	t.Helper()
	g := readingOf(row)
	gone := 0
	for n := range len(row) + 1 {
		want, ended := g.at(n)
		for range 2 {
			r := holding(row[gone:n])
			ahead := r.Taken()
			done, err := h.Step(r)
			agree(t, h, g, ended, done, err)
			gone += r.Taken() - ahead
			if !(ended && g.wrong) && gone != want {
				t.Fatalf("%d bits gone of %d, for %d", gone, n, want)
			}
		}
		if ended {
			return
		}
	}
}

// inBytes: so many bytes come at a time, with others behind the head; bits that are not the head's stay.
func inBytes(t *testing.T, h *head.Reader, row string, piece int) {
	t.Helper()
	g := readingOf(row)
	rest := packed(row)
	var r bits.Reader
	for fed := 0; len(rest) > 0; {
		n := r.Feed(rest[:min(piece, len(rest))])
		rest = rest[n:]
		fed += n
		want, ended := g.at(8 * fed)
		done, err := h.Step(&r)
		agree(t, h, g, ended, done, err)
		if !(ended && g.wrong) && (r.Taken() != want || r.Has() != 8*fed-want) {
			t.Fatalf("%d bits gone, %d there, for %d of %d", r.Taken(), r.Has(), want, 8*fed)
		}
		if ended {
			return
		}
	}
}

// inAllWays: likewise, by one reader of heads that begins anew each time.
func inAllWays(t *testing.T, row string) {
	t.Helper()
	h := head.New()
	bitByBit(t, h, row)
	for len(row)%8 != 0 {
		row += "1"
	}
	for _, piece := range []int{1, 2, 3, 8} {
		h.Reset()
		inBytes(t, h, row, piece)
	}
}

// whole: a reader that is fed the row till it is whole.
func whole(t *testing.T, row string) *head.Reader {
	t.Helper()
	h := head.New()
	bitByBit(t, h, row)
	if g := readingOf(row); !g.whole {
		t.Fatal("no head:", row)
	}
	return h
}

// otherRuns: some row of runs that says the lengths.
func (r *rolls) otherRuns(l []int) []api.Run {
	var out []api.Run
	for at := 0; at < len(l); {
		k := 1
		for at+k < len(l) && l[at+k] == l[at] {
			k++
		}
		next := run(l[at], 1)
		switch pick := r.below(4); {
		case pick == 1 && at > 0 && l[at-1] == l[at] && k >= 3:
			next = run(16, 3+r.below(min(k, 6)-2))
		case pick == 2 && l[at] == 0 && k >= 3:
			next = run(17, 3+r.below(min(k, 10)-2))
		case pick == 3 && l[at] == 0 && k >= 11:
			next = run(18, 11+r.below(min(k, 138)-10))
		}
		out = append(out, next)
		at += next.Count
	}
	return out
}

// sizesFor: of a code in which these runs' symbols have codes, and others may.
func (r *rolls) sizesFor(runs []api.Run) []int {
	freq := make([]int, 19)
	for _, run := range runs {
		freq[run.Symbol] += 1 + r.below(50)
	}
	for range r.below(6) {
		freq[r.below(19)]++
	}
	out, _ := lens.Lengths(5+r.below(3), freq...)
	return out
}

// otherHead: a head that Write would not lay down, of the same lengths; with noughts at the ends, too.
func (r *rolls) otherHead(lit, dist []int) string {
	if len(dist) == 0 {
		dist = many(0, 1)
	}
	runs := r.otherRuns(joined(lit, dist))
	sizes := r.sizesFor(runs)
	c := toldSizes(sizes)
	c += r.below(20 - c)
	return front(len(lit), len(dist), c, sizes) + back(sizes, runs...)
}

// P8.4

func TestNewHasTakenNothing(t *testing.T) {
	h := head.New()
	if h.Room() != 747 {
		t.Error("Room", h.Room())
	}
	if lit, dist := h.Lens(); len(lit) != 0 || len(dist) != 0 {
		t.Error(lit, dist)
	}
	for range 3 {
		if done, err := h.Step(&bits.Reader{}); done || err != api.OK {
			t.Error(done, err)
		}
	}
}

func TestResetAtEveryPlace(t *testing.T) {
	r := rolls(11)
	lit, dist := r.pair()
	first := headOf(lit, dist)
	broken := front(286, 30, 4, make([]int, 19)) // ErrHeadForm behind the last of its sizes
	for _, row := range []string{first, broken} {
		for n := range len(row) + 1 {
			h := head.New()
			feed(h, row[:n])
			h.Reset()
			if l, d := h.Lens(); len(l) != 0 || len(d) != 0 || h.Room() != 747 {
				t.Fatal("Reset behind", n, "bits:", l, d, h.Room())
			}
			l, d := r.pair()
			inBytes(t, h, r.otherHead(l, d)+"1111111", 1+r.below(8))
		}
	}
}

// feed: all bits, as they fit.
func feed(h *head.Reader, row string) (bool, api.Errno) {
	done, err := false, api.OK
	rest := ""
	for i := range len(row) {
		rest += row[i : i+1]
		r := holding(rest)
		ahead := r.Taken()
		done, err = h.Step(r)
		rest = rest[r.Taken()-ahead:]
		if done || err != api.OK {
			break
		}
	}
	return done, err
}

// P8.5, P8.6, P8.8

func TestReaderTakesWhatWriteLaysDown(t *testing.T) {
	for i, p := range pairs() {
		row := written(t, p[0], p[1])
		inAllWays(t, row)
		inAllWays(t, row+"0110100111")
		lit, dist := whole(t, row).Lens()
		if !slices.Equal(lit, without(p[0], 257)) || !slices.Equal(dist, without(p[1], 1)) {
			t.Errorf("row %d: %v %v", i, lit, dist)
		}
	}
}

func TestReaderIsWholeBehindCostBits(t *testing.T) {
	r := rolls(12)
	for range 300 {
		lit, dist := r.pair()
		var w bits.Writer
		head.Write(&w, lit, dist)
		cost, _ := head.Cost(lit, dist)
		w.Put(1<<50-1, 50)
		p := w.Bytes()
		h := head.New()
		var in bits.Reader
		done := false
		for !done {
			n := in.Feed(p[:min(len(p), r.below(12))])
			p = p[n:]
			var err api.Errno
			if done, err = h.Step(&in); err != api.OK {
				t.Fatal(err)
			}
		}
		l, d := h.Lens()
		if in.Taken() != cost || !slices.Equal(l, without(lit, 257)) || !slices.Equal(d, without(dist, 1)) {
			t.Fatalf("%d bits for %d; %v %v for %v %v", in.Taken(), cost, l, d, lit, dist)
		}
	}
}

func TestReaderTakesOtherHeads(t *testing.T) {
	r := rolls(13)
	for range 200 {
		lit, dist := r.pair()
		row := r.otherHead(lit, dist)
		inAllWays(t, row+"01101001")
		got, far := whole(t, row).Lens()
		if len(dist) == 0 {
			dist = many(0, 1)
		}
		if !slices.Equal(got, lit) || !slices.Equal(far, dist) {
			t.Fatalf("%v %v for %v %v", got, far, lit, dist)
		}
	}
}

// Bits that are turned, and bits without any sense: a reader that waits, ends, or refuses just where the words say so.
func TestReaderOfAnyBits(t *testing.T) {
	r := rolls(14)
	wholes, wrongs, waits := 0, 0, 0
	for i := range 1000 {
		var row []byte
		if i%3 == 0 {
			for range 100 + r.below(200) {
				row = append(row, byte('0'+r.below(2)))
			}
		} else {
			row = []byte(r.otherHead(r.pair()))
			for range r.below(4) {
				row[r.below(len(row))] ^= 1
			}
			row = row[:len(row)-r.below(5)]
		}
		inAllWays(t, string(row))
		switch g := readingOf(string(row)); {
		case g.whole:
			wholes++
		case g.wrong:
			wrongs++
		default:
			waits++
		}
	}
	if wholes < 20 || wrongs < 500 || waits < 50 {
		t.Error("whole, wrong, waiting:", wholes, wrongs, waits)
	}
}

// refusedAt: the row must be refused behind just so many bits.
func refusedAt(t *testing.T, row string, n int) {
	t.Helper()
	if done, err := feed(head.New(), row[:n-1]); done || err != api.OK {
		t.Errorf("%v %d ahead of the %d-th bit", done, err, n)
	}
	if done, err := feed(head.New(), row[:n]); done || err != api.ErrHeadForm {
		t.Errorf("%v %d behind %d bits", done, err, n)
	}
	inAllWays(t, row)
}

// sized: the nineteen sizes, of symbols and sizes in turn.
func sized(l ...int) []int {
	out := make([]int, 19)
	for i := 0; i < len(l); i += 2 {
		out[l[i]] = l[i+1]
	}
	return out
}

func TestReaderRefusesCounts(t *testing.T) {
	for _, c := range [][2]int{{287, 1}, {288, 1}, {257, 31}, {257, 32}, {288, 32}, {287, 30}, {286, 31}} {
		refusedAt(t, front(c[0], c[1], 19, sized(8, 1, 9, 1)), 14)
	}
	if done, err := feed(head.New(), front(286, 30, 19, sized(8, 1, 9, 1))); done || err != api.OK {
		t.Error("286 and 30:", done, err)
	}
}

func TestReaderRefusesSizes(t *testing.T) {
	for c := 4; c <= 19; c++ {
		refusedAt(t, front(257, 1, c, sized()), 14+3*c)
	}
	for _, c := range []struct {
		c     int
		sizes []int
	}{
		{4, sized(0, 1, 16, 1, 17, 1)},
		{4, sized(0, 2)},
		{4, sized(16, 7)},
		{4, sized(0, 2, 18, 2)},
		{19, sized(15, 1, 1, 1, 14, 7)},
		{19, sized(15, 2, 1, 1)},
		{5, sized(8, 3, 18, 1)},
	} {
		refusedAt(t, front(257, 1, c.c, c.sizes), 14+3*c.c)
	}
	for _, c := range []struct {
		c     int
		sizes []int
	}{{4, sized(0, 1)}, {4, sized(18, 1)}, {19, sized(15, 1)}, {4, sized(0, 1, 18, 1)}, {4, sized(0, 2, 16, 2, 17, 2, 18, 2)}} {
		if done, err := feed(head.New(), front(257, 1, c.c, c.sizes)); done || err != api.OK {
			t.Error(c, done, err)
		}
	}
}

func TestReaderRefusesBitsThatAreNoCode(t *testing.T) {
	for c := 4; c <= 19; c++ {
		alone := sized(order()[c-1], 1)
		row := front(257, 1, c, alone)
		refusedAt(t, row+"1", len(row)+1)
	}
	row := front(257, 1, 4, sized(0, 1)) + strings.Repeat("0", 100)
	refusedAt(t, row+"1", len(row)+1)
}

func TestReaderRefusesAFirstCopy(t *testing.T) {
	// The symbol alone, not the bits behind it.
	for _, sizes := range [][]int{sized(16, 1), sized(16, 2, 8, 2, 9, 1), sized(16, 7, 15, 7, 0, 6, 1, 5, 2, 4, 3, 3, 4, 2, 5, 1)} {
		row := front(257, 1, 19, sizes)
		refusedAt(t, row+back(sizes, run(16, 3)), len(row)+sizes[16])
	}
}

func TestReaderRefusesRunsBeyondTheRow(t *testing.T) {
	sizes := sized(0, 3, 1, 2, 16, 3, 17, 2, 18, 2)
	ahead := row(18, 138, 18, 117, 1, 1, 1, 1) // 257
	for _, c := range []struct {
		b    int
		runs []api.Run
	}{
		{1, row(16, 3)}, {2, row(16, 3)}, {5, row(16, 6)},
		{2, row(17, 3)}, {9, row(17, 10)},
		{10, row(18, 11)}, {30, row(18, 31)}, {30, row(18, 138)},
		{13, row(18, 11, 16, 3)}, {14, row(1, 1, 18, 11, 17, 3)},
	} {
		out := front(257, c.b, 18, sizes) + back(sizes, append(slices.Clone(ahead), c.runs...)...)
		refusedAt(t, out, len(out))
	}
	for _, c := range []struct {
		b    int
		runs []api.Run
	}{
		{1, row(0, 1)}, {3, row(17, 3)}, {10, row(17, 10)}, {11, row(18, 11)}, {30, row(18, 30)}, {14, row(18, 11, 16, 3)},
		{5, row(1, 1, 17, 3, 1, 1)},
	} {
		whole(t, front(257, c.b, 18, sizes)+back(sizes, append(slices.Clone(ahead), c.runs...)...))
	}
}

func TestReaderOfFourSizes(t *testing.T) {
	// Of the symbols 16, 17, 18 and 0 there are noughts alone: the row is there, and can't be told.
	for _, sizes := range [][]int{sized(18, 1), sized(0, 1, 18, 1), sized(0, 2, 16, 2, 17, 2, 18, 2)} {
		out := front(270, 9, 4, sizes) + back(sizes, row(18, 138, 18, 130, 18, 11)...)
		refusedAt(t, out, len(out))
	}
}

func TestReaderOfOneSymbolAlone(t *testing.T) {
	// Each run has one bit; no code has so many symbols of one length.
	for symbol := range 16 {
		out := front(257, 1, 19, sized(symbol, 1)) + strings.Repeat("0", 258)
		refusedAt(t, out, len(out))
	}
}

func TestReaderRefusesWhatCantBeTold(t *testing.T) {
	r := rolls(15)
	tried := 0
	for _, p := range untellable() {
		lit, dist := p[0], p[1]
		if len(lit) < 257 || len(lit) > 286 || len(dist) > 30 || slices.Min(joined(lit, dist)) < 0 || slices.Max(joined(lit, dist)) > 15 {
			continue // no bits say so
		}
		out := r.otherHead(lit, dist)
		refusedAt(t, out, len(out))
		tried++
	}
	if tried < 10 {
		t.Error("too few rows:", tried)
	}
}

func TestStepBehindTheEnd(t *testing.T) {
	r := rolls(16)
	lit, dist := r.pair()
	h := whole(t, headOf(lit, dist))
	first, far := h.Lens()
	in := holding("10110")
	for range 3 {
		if done, err := h.Step(in); !done || err != api.OK || in.Has() != 5 {
			t.Error(done, err, in.Has())
		}
		if done, err := h.Step(nil); done || err != api.ErrMade {
			t.Error(done, err)
		}
		if l, d := h.Lens(); !slices.Equal(l, first) || !slices.Equal(d, far) {
			t.Error(l, d)
		}
	}
}

func TestStepBehindAnError(t *testing.T) {
	h := head.New()
	feed(h, front(287, 1, 4, sized()))
	good := packed(headOf(flat(257), nil))
	for range 3 {
		var in bits.Reader
		in.Feed(good)
		if done, err := h.Step(&in); done || err != api.ErrHeadForm {
			t.Error(done, err)
		}
		if done, err := h.Step(&bits.Reader{}); done || err != api.ErrHeadForm {
			t.Error("without bits:", done, err)
		}
		if done, err := h.Step(nil); done || err != api.ErrMade {
			t.Error("nil:", done, err)
		}
		if l, d := h.Lens(); len(l) != 0 || len(d) != 0 {
			t.Error(l, d)
		}
	}
	h.Reset()
	bitByBit(t, h, headOf(flat(257), nil))
}

// P8.9

func TestWhatAReaderTellsCanBeTold(t *testing.T) {
	r := rolls(17)
	for range 200 {
		lit, dist := whole(t, r.otherHead(r.pair())).Lens()
		cost, err := head.Cost(lit, dist)
		again := written(t, lit, dist)
		if err != api.OK || len(again) != cost {
			t.Fatal(err, cost, len(again))
		}
		l, d := whole(t, again).Lens()
		if !slices.Equal(l, without(lit, 257)) || !slices.Equal(d, without(dist, 1)) {
			t.Fatalf("%v %v for %v %v", l, d, lit, dist)
		}
	}
}

// Heads that another program has laid down.
func TestReaderTakesTheHeadsOfOthers(t *testing.T) {
	r := rolls(18)
	tried := 0
	for i := range 60 {
		plain := make([]byte, 2000+r.below(5000))
		for at := range plain {
			plain[at] = byte('a' + r.below(1+r.below(2+i)))
		}
		var out bytes.Buffer
		w, _ := flate.NewWriter(&out, 1+r.below(9))
		w.Write(plain)
		w.Close()
		p := out.Bytes()
		if p[0]>>1&3 != 2 {
			continue
		}
		tried++
		row := text(p, 8*len(p))[3:]
		if g := readingOf(row); !g.whole {
			t.Fatal("no head")
		}
		inAllWays(t, row)
	}
	if tried < 20 {
		t.Error("too few heads:", tried)
	}
}

// R3

func TestWhatLensAnsweredStays(t *testing.T) {
	r := rolls(19)
	lit, dist := r.code(280, 256), r.code(20, 19)
	h := whole(t, r.otherHead(lit, dist))
	l, d := h.Lens()
	_ = append(l, 98)
	_ = append(l[:10], 98)
	if !slices.Equal(d, dist) {
		t.Error("the lists share room")
	}
	for i := range l {
		l[i] = 99
	}
	for i := range d {
		d[i] = 99
	}
	l, d = h.Lens()
	if !slices.Equal(l, lit) || !slices.Equal(d, dist) {
		t.Error("what was answered is what the reader keeps")
	}
	h.Reset()
	other, far := r.pair()
	bitByBit(t, h, r.otherHead(other, far))
	if !slices.Equal(l, lit) || !slices.Equal(d, dist) {
		t.Error("what was answered has changed")
	}
}

// R4

func TestTwoReadersKnowNothingOfEachOther(t *testing.T) {
	r := rolls(20)
	for range 20 {
		rows := []string{r.otherHead(r.pair()), r.otherHead(r.pair())}
		readers := []*head.Reader{head.New(), head.New()}
		rests := []string{"", ""}
		ended := []bool{false, false}
		at := []int{0, 0}
		for !ended[0] || !ended[1] {
			i := r.below(2)
			if ended[i] {
				continue
			}
			rests[i] += rows[i][at[i] : at[i]+1]
			at[i]++
			in := holding(rests[i])
			ahead := in.Taken()
			var err api.Errno
			if ended[i], err = readers[i].Step(in); err != api.OK {
				t.Fatal(err)
			}
			rests[i] = rests[i][in.Taken()-ahead:]
		}
		for i := range 2 {
			g := readingOf(rows[i])
			if l, d := readers[i].Lens(); at[i] != len(rows[i]) || !slices.Equal(l, g.lit) || !slices.Equal(d, g.dist) {
				t.Fatal("another head")
			}
		}
	}
}

// R5

func TestReadersThatNoCallMade(t *testing.T) {
	var zero head.Reader
	for _, h := range []*head.Reader{nil, &zero} {
		for range 2 {
			in := holding(headOf(flat(257), nil)[:40])
			if done, err := h.Step(in); done || err != api.ErrMade || in.Has() != 40 {
				t.Error("Step", done, err, in.Has())
			}
			if done, err := h.Step(nil); done || err != api.ErrMade {
				t.Error("Step of nil", done, err)
			}
			if l, d := h.Lens(); len(l) != 0 || len(d) != 0 {
				t.Error("Lens", l, d)
			}
			if h.Room() != 0 {
				t.Error("Room", h.Room())
			}
			h.Reset()
		}
	}
}

func TestStepWithoutBits(t *testing.T) {
	h := head.New()
	for range 2 {
		if done, err := h.Step(nil); done || err != api.ErrMade {
			t.Error(done, err)
		}
	}
	bitByBit(t, h, headOf(flat(257), nil)) // as if nothing had been asked
}
