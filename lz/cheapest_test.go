package lz_test

import (
	"bytes"
	"math"
	"math/bits"
	"slices"
	"strings"
	"testing"

	"sapper/api"
	"sapper/lz"
)

// paid: what tokens cost.
func paid(c api.Price, l ...api.Token) int {
	sum := 0
	for _, t := range l {
		if t.Len == 0 {
			sum += c.Lit
			continue
		}
		sum += c.Match
		for d := t.Dist; d > 0; d /= 2 {
			sum += c.Far
		}
	}
	return sum
}

// ahead: of two lists of the same bytes and cost, is it one that the chapter names ahead of the other?
func ahead(one, other []api.Token) bool {
	for i := range one {
		x, y := one[i], other[i]
		switch {
		case x == y:
			continue
		case x.Len == 0 || y.Len == 0:
			return x.Len == 0
		case x.Len != y.Len:
			return x.Len > y.Len
		}
		return x.Dist < y.Dist
	}
	return false
}

// firsts: all tokens that may stand at a place.
func firsts(data []byte, at, window int) []api.Token {
	out := []api.Token{lit(data[at])}
	for dist := 1; dist <= min(at, window); dist++ {
		for n := range common(data, at, dist) + 1 {
			if n >= 3 {
				out = append(out, match(n, dist))
			}
		}
	}
	return out
}

// nearFirsts: the same, but of the matches of each length the nearest alone, which is never dearer than the others and is the one that is named.
func nearFirsts(data []byte, at, window int) []api.Token {
	out := []api.Token{lit(data[at])}
	for dist, next := 1, 3; dist <= min(at, window); dist++ {
		for n := common(data, at, dist); next <= n; next++ {
			out = append(out, match(next, dist))
		}
	}
	return out
}

// every: each list of tokens that is the data from a place on, behind those that stand ahead.
func every(data []byte, at, window int, l []api.Token, tell func([]api.Token)) {
	if at == len(data) {
		tell(l)
		return
	}
	for _, t := range firsts(data, at, window) {
		every(data, at+max(1, t.Len), window, append(l, t), tell)
	}
}

// ofAll: the one that the chapter names, of all lists that there are.
func ofAll(data []byte, window int, c api.Price) ([]api.Token, int) {
	var best []api.Token
	least := -1
	every(data, 0, window, nil, func(l []api.Token) {
		cost := paid(c, l...)
		if least < 0 || cost < least || cost == least && ahead(l, best) {
			best, least = slices.Clone(l), cost
		}
	})
	return best, least
}

// fromBehind: the same, for longer data: what is the best from each place on, the last place first.
func fromBehind(data []byte, window int, c api.Price) ([]api.Token, int) {
	costs := make([]int, len(data)+1)
	best := make([]api.Token, len(data))
	for at := len(data) - 1; at >= 0; at-- {
		costs[at] = math.MaxInt
		for _, t := range nearFirsts(data, at, window) {
			cost := paid(c, t) + costs[at+max(1, t.Len)]
			if cost < costs[at] || cost == costs[at] && ahead([]api.Token{t}, []api.Token{best[at]}) {
				costs[at], best[at] = cost, t
			}
		}
	}
	var out []api.Token
	for at := 0; at < len(data); at += max(1, best[at].Len) {
		out = append(out, best[at])
	}
	return out, costs[0]
}

// wantCheapest: Cheapest answers these.
func wantCheapest(t *testing.T, data []byte, window int, c api.Price, cost int, want ...api.Token) {
	t.Helper()
	l, sum, err := lz.Cheapest(data, look(window, 0), c)
	if !slices.Equal(l, want) || sum != cost || err != api.OK {
		t.Errorf("Cheapest(%.60q, %d, %v): %v, %d, %d, not %v, %d", data, window, c, l, sum, err, want, cost)
	}
}

// prices: some, those at their ends too.
func prices() []api.Price {
	return []api.Price{
		{}, {Lit: 1}, {Match: 1}, {Far: 1}, {Lit: 1, Match: 1, Far: 1}, {Lit: 1, Match: 3}, {Lit: 2, Match: 1, Far: 1},
		{Lit: 8, Match: 10, Far: 1}, {Lit: 3, Match: 4, Far: 2}, {Lit: 2, Match: 3, Far: 1}, {Lit: 1, Far: 1},
		{Lit: 1 << 20, Match: 1 << 20, Far: 1 << 20}, {Lit: 1 << 20}, {Lit: 1 << 20, Far: 1 << 20},
	}
}

// P7.9

func TestCheapestExamples(t *testing.T) {
	text := []byte("aaaa")
	wantCheapest(t, text, 1, api.Price{Lit: 8, Match: 10, Far: 1}, 19, lit('a'), match(3, 1))
	wantCheapest(t, text, 1, api.Price{Lit: 8, Match: 30, Far: 1}, 32, lits("aaaa")...)
	wantCheapest(t, text, 1, api.Price{Lit: 1, Match: 3}, 4, lits("aaaa")...)
}

func TestCheapestErrors(t *testing.T) {
	for _, v := range []int{math.MinInt, -1, 1<<20 + 1, math.MaxInt} {
		for _, c := range []api.Price{{Lit: v}, {Match: v}, {Far: v}, {Lit: v, Match: v, Far: v}} {
			for _, data := range [][]byte{nil, []byte("aaaa")} {
				if l, cost, err := lz.Cheapest(data, look(1, 0), c); len(l) != 0 || cost != 0 || err != api.ErrLzOption {
					t.Errorf("%v: %v, %d, %d", c, l, cost, err)
				}
			}
		}
	}
	for _, k := range []api.Look{look(0, 1), look(-1, 1), look(api.MaxLook+1, 1), look(1, -1), look(1, api.MaxChain+1), {}} {
		for _, data := range [][]byte{nil, []byte("aaaa")} {
			for _, c := range []api.Price{{Lit: 1}, {Lit: -1}} {
				if l, cost, err := lz.Cheapest(data, k, c); len(l) != 0 || cost != 0 || err != api.ErrLzOption {
					t.Errorf("%v: %v, %d, %d", k, l, cost, err)
				}
			}
		}
	}
}

func TestCheapestFewBytes(t *testing.T) {
	for _, c := range prices() {
		for _, s := range []string{"", "a", "aa", "aaa", "aba"} {
			for _, window := range []int{1, api.MaxLook} {
				wantCheapest(t, []byte(s), window, c, len(s)*c.Lit, lits(s)...)
			}
		}
	}
}

func TestCheapestOfAllLists(t *testing.T) {
	for n := range 9 {
		for kind := range 1 << max(0, n-1) {
			data := make([]byte, n)
			for i := range data {
				data[i] = byte('a' + kind>>i&1)
			}
			for _, c := range prices() {
				for _, window := range []int{1, 2, 3, 8} {
					l, cost := ofAll(data, window, c)
					wantCheapest(t, data, window, c, cost, l...)
				}
			}
		}
	}
}

func TestTheTwoModels(t *testing.T) {
	r := rolls(90)
	for range 200 {
		data := r.patched(r.below(13), 1+r.below(2))
		c := prices()[r.below(len(prices()))]
		window := 1 + r.below(13)
		one, least := ofAll(data, window, c)
		other, cost := fromBehind(data, window, c)
		if !slices.Equal(one, other) || least != cost {
			t.Fatalf("%q, %d, %v: %v, %d; %v, %d", data, window, c, one, least, other, cost)
		}
	}
}

func TestCheapestAnyText(t *testing.T) {
	r := rolls(91)
	for i := range 1200 {
		data := r.patched(r.below(150), 1+r.below(4))
		if i%3 == 0 {
			data = r.text(r.below(150), 1+r.below(3))
		}
		c := api.Price{Lit: r.below(12), Match: r.below(25), Far: r.below(4)}
		if i%4 == 0 {
			c = prices()[r.below(len(prices()))]
		}
		window := 1 + r.below(160)
		l, cost := fromBehind(data, window, c)
		wantCheapest(t, data, window, c, cost, l...)
	}
}

func TestCheapestLongMatches(t *testing.T) {
	r := rolls(92)
	base := r.text(400, 3)
	for i := range 40 {
		// Runs, and copies of far more than a match goes over, some with a byte that is another.
		var data []byte
		for range 4 {
			part := slices.Clone(base[r.below(60) : 300+r.below(100)])
			if r.below(2) == 0 {
				part = bytes.Repeat([]byte{part[0]}, 1+r.below(600))
			}
			part[r.below(len(part))] = 'b'
			data = append(data, part...)
		}
		c := prices()[i%len(prices())]
		window := 1 + r.below(1500)
		l, cost := fromBehind(data, window, c)
		wantCheapest(t, data, window, c, cost, l...)
	}
}

func TestCheapestRuns(t *testing.T) {
	c := api.Price{Lit: 8, Match: 10, Far: 1}
	for _, window := range []int{1, 2, 300, api.MaxLook} {
		run := bytes.Repeat([]byte("r"), 1+258)
		wantCheapest(t, run, window, c, 19, lit('r'), match(258, 1))
		// One byte more: the byte stands as far ahead as may be.
		wantCheapest(t, append(run, 'r'), window, c, 27, lit('r'), lit('r'), match(258, 1))
		// Three more: a match costs less than bytes; of two matches the longest stands ahead.
		run = bytes.Repeat([]byte("r"), 1+258+3)
		wantCheapest(t, run, window, c, 30, lit('r'), match(258, 1), match(3, 1))
		// By a price of nothing at all: bytes.
		wantCheapest(t, run, window, api.Price{}, 0, lits(string(run))...)
	}
}

func TestCheapestTies(t *testing.T) {
	// Two distances that cost the same: the least one.
	wantCheapest(t, []byte("abcXabcYabc"), 20, api.Price{Lit: 9}, 5*9, append(lits("abcX"), match(3, 4), lit('Y'), match(3, 4))...)
	wantCheapest(t, []byte("abcXabcYabc"), 20, api.Price{Lit: 9, Match: 1, Far: 1}, 5*9+8, append(lits("abcX"), match(3, 4), lit('Y'), match(3, 4))...)
	// 4 to 7 have the same number of bits: with a longer match at 7 than at 4 the longest of them all.
	wantCheapest(t, []byte("abcdefgabcdefg"), 20, api.Price{Lit: 9, Match: 1, Far: 1}, 7*9+4, append(lits("abcdefg"), match(7, 7))...)
	// A shorter match lies nearer, and what is saved by its bits is paid for the byte.
	text := []byte("abcdefghabcabcd")
	wantCheapest(t, text, 20, api.Price{Lit: 8, Match: 1, Far: 1}, 8*8+1+4+1+4, append(lits("abcdefgh"), match(3, 8), match(4, 11))...)
	wantCheapest(t, text, 20, api.Price{Lit: 3, Far: 2}, 8*3+8+4+3, append(lits("abcdefgh"), match(3, 8), match(3, 3), lit('d'))...)
	// Just as dear: the longest match has the word, if no byte stands there.
	wantCheapest(t, text, 20, api.Price{Lit: 4, Far: 2}, 8*4+8+8, append(lits("abcdefgh"), match(3, 8), match(4, 11))...)
	// A byte and a match of three are as dear as a match of four: the byte.
	wantCheapest(t, []byte("aaaaa"), 1, api.Price{Lit: 0, Match: 0, Far: 0}, 0, lits("aaaaa")...)
	wantCheapest(t, []byte("abcdabcd"), 4, api.Price{Lit: 2, Match: 3, Far: 0}, 11, append(lits("abcd"), match(4, 4))...)
	wantCheapest(t, []byte("abcdabcd"), 4, api.Price{Lit: 1, Match: 3, Far: 0}, 7, append(lits("abcd"), match(4, 4))...)
	wantCheapest(t, []byte("abcdabcd"), 4, api.Price{Lit: 1, Match: 4, Far: 0}, 8, lits("abcdabcd")...)
	// Matches of three and of four, and of four and of three: the longest first.
	wantCheapest(t, []byte("aaaaaaaa"), 1, api.Price{Lit: 9, Match: 1, Far: 0}, 10, lit('a'), match(7, 1))
}

func TestCheapestDistances(t *testing.T) {
	for _, d := range []int{3, 4, 7, 8, 15, 16, 31, 32, 255, 256, 1023, 1024, 16383, 16384, 32767, 32768} {
		text := append([]byte("abc"), make([]byte, d-3)...)
		text = append(text, "abc"...)
		for _, c := range []api.Price{{Lit: 1000, Far: 1}, {Lit: 1000, Match: 7, Far: 20}, {Lit: 1 << 20, Far: 1 << 16}} {
			l, cost, err := lz.Cheapest(text, look(d, 0), c)
			if err != api.OK || l[len(l)-1] != match(3, d) || cost != paid(c, l...) {
				t.Fatalf("distance %d, %v: %v, %d, %d", d, c, l[len(l)-1], cost, err)
			}
			// The match is paid with so many bits, and all else as it is without it.
			_, rest, _ := lz.Cheapest(text[:d], look(d, 0), c)
			if cost-rest != c.Match+c.Far*bits.Len(uint(d)) {
				t.Fatalf("distance %d, %v: %d", d, c, cost-rest)
			}
			// The window ends just ahead of it: bytes.
			l, cost, err = lz.Cheapest(text, look(d-1, 0), c)
			if err != api.OK || !slices.Equal(l[len(l)-3:], lits("abc")) || cost != rest+3*c.Lit {
				t.Fatalf("distance %d, window %d, %v: %v, %d, %d", d, d-1, c, l[max(0, len(l)-4):], cost, err)
			}
		}
	}
	// One more than the greatest window.
	text := append([]byte("abc"), make([]byte, api.MaxLook-2)...)
	text = append(text, "abc"...)
	l, _, err := lz.Cheapest(text, look(api.MaxLook, 0), api.Price{Lit: 1000})
	if err != api.OK || !slices.Equal(l[len(l)-3:], lits("abc")) {
		t.Errorf("%v, %d", l[max(0, len(l)-4):], err)
	}
}

func TestCheapestPaysByTheBit(t *testing.T) {
	word := "abcdefghijklmnopqrst"
	for _, near := range []int{31, 63, 127} {
		// The whole word stands at a distance that has one bit more than that of the word without its last byte.
		far := near + 32
		fill := row(12 + near - 20)
		data := slices.Concat([]byte(word), fill[:12], []byte(word[:19]), []byte("X"), fill[12:], []byte(word))
		for _, c := range []api.Price{{Lit: 10, Match: 3, Far: 9}, {Lit: 10, Match: 3, Far: 10}, {Lit: 10, Match: 3, Far: 11}} {
			want := []api.Token{match(20, far)}
			if c.Far > c.Lit {
				want = []api.Token{match(19, near), lit('t')}
			}
			l, cost, err := lz.Cheapest(data, look(200, 0), c)
			if err != api.OK || cost != paid(c, l...) || !slices.Equal(l[len(l)-len(want):], want) {
				t.Errorf("%v: %v, %d, %d, not %v at the end", c, l[max(0, len(l)-3):], cost, err, want)
			}
		}
	}
}

func TestCheapestAtTheEndsOfPrices(t *testing.T) {
	run := bytes.Repeat([]byte("ab"), 2000)
	wantCheapest(t, run, 2, api.Price{Lit: 1 << 20, Match: 1 << 20, Far: 1 << 20}, 2<<20+16*3<<20, cheapRun(4000)...)
	if _, cost, err := lz.Cheapest(row(5000), look(1, 0), api.Price{Lit: 1 << 20, Match: 1 << 20, Far: 1 << 20}); cost != 5000<<20 || err != api.OK {
		t.Errorf("%d, %d", cost, err)
	}
}

// cheapRun: the tokens of "ab" over and over, so many bytes.
func cheapRun(n int) []api.Token {
	out := lits("ab")
	for n -= 2; n > 0; n -= 258 {
		out = append(out, match(min(n, 258), 2))
	}
	return out
}

func TestChainAndLazySayNothing(t *testing.T) {
	r := rolls(93)
	for range 50 {
		data := r.patched(r.below(300), 2)
		c := api.Price{Lit: 1 + r.below(9), Match: r.below(12), Far: r.below(3)}
		window := 1 + r.below(300)
		want, least, err := lz.Cheapest(data, look(window, 0), c)
		for _, k := range []api.Look{lazy(window, 0), look(window, 1), lazy(window, api.MaxChain)} {
			if l, cost, why := lz.Cheapest(data, k, c); !slices.Equal(l, want) || cost != least || why != err {
				t.Fatalf("%v: %v, %d, %d", k, l, cost, why)
			}
		}
	}
}

func TestCheapestSortsBothWays(t *testing.T) {
	// The same three bytes over and over, with words behind them that rise, fall, and close in on each other from both sides.
	for kind := range 4 {
		var data []byte
		for i := range 120 {
			v := []int{i, 200 - i, i/2 + i%2*(200-i), i * 37 % 121}[kind]
			data = append(data, 'a', 'b', 'c', byte(v))
		}
		data = append(data, data[200:300]...)
		for _, c := range []api.Price{{Lit: 9, Match: 3, Far: 2}, {Lit: 4, Match: 1, Far: 1}} {
			for _, window := range []int{1, 50, 301, 500} {
				l, cost := fromBehind(data, window, c)
				wantCheapest(t, data, window, c, cost, l...)
			}
		}
	}
}

// P7.6 of Cheapest, P7.10

func TestNoneCostLess(t *testing.T) {
	r := rolls(10)
	for i := range 200 {
		data := r.patched(r.below(2500), 1+r.below(6))
		c := api.Price{Lit: r.below(12), Match: r.below(25), Far: r.below(4)}
		window := 1 + r.below(2600)
		l, least, err := lz.Cheapest(data, look(window, 0), c)
		if err != api.OK || paid(c, l...) != least {
			t.Fatalf("%d, %d, not %d", err, least, paid(c, l...))
		}
		if b, err := lz.Expand(window, l...); !bytes.Equal(b, data) || err != api.OK {
			t.Fatalf("%d bytes of %d, %d", len(b), len(data), err)
		}
		for _, k := range []api.Look{look(window, 0), look(window, 1), lazy(window, 1+i), look(window, api.MaxChain), lazy(window, api.MaxChain)} {
			p, _ := lz.Parse(data, k)
			if cost := paid(c, p...); cost < least {
				t.Fatalf("%v: Parse's cost %d, Cheapest's %d", k, cost, least)
			}
		}
		// Nor does any way at all, chosen at each place anew.
		for range 5 {
			cost := 0
			for at := 0; at < len(data); {
				x := lit(data[at])
				if dist := 1 + r.below(window); dist <= at && common(data, at, dist) >= 3 {
					x = match(3+r.below(common(data, at, dist)-2), dist)
				}
				cost += paid(c, x)
				at += max(1, x.Len)
			}
			if cost < least {
				t.Fatalf("tokens cost %d, Cheapest's %d", cost, least)
			}
		}
	}
}

func TestCheapestGreat(t *testing.T) {
	r := rolls(11)
	c := api.Price{Lit: 8, Match: 12, Far: 1}
	sparse := make([]byte, 200000)
	for i := range sparse {
		if r.below(50) == 0 {
			sparse[i] = byte(r.below(256))
		}
	}
	for i, data := range [][]byte{r.text(100000, 2), r.text(100000, 26), r.patched(200000, 256), make([]byte, 200000), sparse, row(49152), []byte(strings.Repeat("abcdefghij", 20000))} {
		l, cost, err := lz.Cheapest(data, look(api.MaxLook, 0), c)
		if err != api.OK || cost != paid(c, l...) {
			t.Fatalf("%d: %d, %d, not %d", i, err, cost, paid(c, l...))
		}
		if b, err := lz.Expand(api.MaxLook, l...); !bytes.Equal(b, data) || err != api.OK {
			t.Fatalf("%d: %d bytes of %d, %d", i, len(b), len(data), err)
		}
		p, _ := lz.Parse(data, lazy(api.MaxLook, 100))
		if dear := paid(c, p...); dear < cost {
			t.Fatalf("%d: Parse's cost %d, Cheapest's %d", i, dear, cost)
		}
		nearest(t, data, l)
	}
}

// nearest: each match has the least distance at which it is there.
func nearest(t *testing.T, data []byte, l []api.Token) {
	t.Helper()
	at := 0
	for i, x := range l {
		if i%7 == 0 && x.Len > 0 {
			word := data[at : at+x.Len]
			// Where it stands last, beginning ahead of the place itself.
			if d := at - bytes.LastIndex(data[:at+x.Len-1], word); d != x.Dist {
				t.Fatalf("at %d: %v, but it stands %d ahead, too", at, x, d)
			}
		}
		at += max(1, x.Len)
	}
}

// R3, R4

func TestCheapestIsNew(t *testing.T) {
	r := rolls(12)
	data := r.patched(3000, 3)
	c := api.Price{Lit: 8, Match: 12, Far: 1}
	first, cost, _ := lz.Cheapest(data, look(900, 0), c)
	want := slices.Clone(first)
	for i := range first[:cap(first)] {
		first[:cap(first)][i] = lit('#')
	}
	for range 5 {
		wantCheapest(t, slices.Grow(slices.Clone(data), 50+r.below(50)), 900, c, cost, want...)
	}
	second, _, _ := lz.Cheapest(data, look(900, 0), c)
	_ = append(second, lit('!'))
	clear(data)
	if !slices.Equal(second, want) {
		t.Error("an answer has changed with the data")
	}
}
