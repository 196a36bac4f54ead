package lz_test

import (
	"bytes"
	"math"
	"slices"
	"strings"
	"testing"

	"sapper/api"
	"sapper/lz"
)

// rolls: numbers that follow no pattern and are the same at each run.
type rolls uint64

// below: a number from 0 on, below n.
func (r *rolls) below(n int) int {
	*r = *r*6364136223846793005 + 1442695040888963407
	return int(uint64(*r>>33) % uint64(n))
}

// text: so many bytes, of so many kinds.
func (r *rolls) text(n, kinds int) []byte {
	out := make([]byte, n)
	for i := range out {
		out[i] = byte('a' + r.below(kinds))
	}
	return out
}

// patched: so many bytes, of which many are copies of those ahead.
func (r *rolls) patched(n, kinds int) []byte {
	out := r.text(min(n, 4), kinds)
	for len(out) < n {
		if r.below(3) == 0 {
			out = append(out, r.text(1, kinds)...)
			continue
		}
		dist := 1 + r.below(len(out))
		for range 1 + r.below(12) {
			out = append(out, out[len(out)-dist])
		}
	}
	return out[:n]
}

// lit: a byte.
func lit(b byte) api.Token { return api.Token{Lit: b} }

// lits: bytes.
func lits(s string) []api.Token {
	var out []api.Token
	for i := range len(s) {
		out = append(out, lit(s[i]))
	}
	return out
}

// match: so many bytes so far ahead.
func match(n, dist int) api.Token { return api.Token{Len: n, Dist: dist} }

// mayBe: as the chapter has it.
func mayBe(t api.Token) bool {
	aByte := t.Len == 0 && t.Dist == 0
	aMatch := 3 <= t.Len && t.Len <= 258 && 1 <= t.Dist && t.Dist <= 32768 && t.Lit == 0
	return aByte || aMatch
}

// grown: all that the tokens are, behind what is there.
func grown(all []byte, l ...api.Token) []byte {
	for _, t := range l {
		if t.Len == 0 {
			all = append(all, t.Lit)
			continue
		}
		for range t.Len {
			all = append(all, all[len(all)-t.Dist])
		}
	}
	return all
}

// checked: what Check must tell.
func checked(window int, l ...api.Token) (int, api.Errno) {
	if window < 1 || window > 32768 {
		return 0, api.ErrArg
	}
	var all []byte
	for i, t := range l {
		if !mayBe(t) {
			return i, api.ErrLzToken
		}
		if t.Dist > window || t.Dist > len(all) {
			return i, api.ErrLzFar
		}
		all = grown(all, t)
	}
	return 0, api.OK
}

// candidates: the distances of all of them, the nearest first.
func candidates(data []byte, at int, k api.Look) []int {
	var out []int
	for dist := 1; dist <= k.Window && dist <= at && at+3 <= len(data) && len(out) < k.Chain; dist++ {
		if string(data[at-dist:at-dist+3]) == string(data[at:at+3]) {
			out = append(out, dist)
		}
	}
	return out
}

// common: how many bytes from at on are those that stand dist ahead of them, at most 258.
func common(data []byte, at, dist int) int {
	n := 0
	for n < 258 && at+n < len(data) && data[at+n] == data[at+n-dist] {
		n++
	}
	return n
}

// best: what Best must tell of a place.
func best(data []byte, at int, k api.Look) (int, int) {
	most, far := 0, 0
	for _, dist := range candidates(data, at, k) {
		if n := common(data, at, dist); n > most {
			most, far = n, dist
		}
	}
	return most, far
}

// parsed: what Parse must answer.
func parsed(data []byte, k api.Look) []api.Token {
	var out []api.Token
	for at := 0; at < len(data); {
		n, dist := best(data, at, k)
		longer := false
		if k.Lazy && at+1 < len(data) {
			next, _ := best(data, at+1, k)
			longer = next > n
		}
		if n == 0 || longer {
			out = append(out, lit(data[at]))
			at++
			continue
		}
		out = append(out, match(n, dist))
		at += n
	}
	return out
}

// wantCheck: Check, and Expand and Size of the same tokens, tell what the chapter says.
func wantCheck(t *testing.T, window int, l ...api.Token) {
	t.Helper()
	place, why := checked(window, l...)
	if at, err := lz.Check(window, l...); at != place || err != why {
		t.Errorf("Check(%d, %v): %d, %d, not %d, %d", window, l, at, err, place, why)
	}
	var all []byte
	if why == api.OK {
		all = grown(nil, l...)
	}
	if b, err := lz.Expand(window, l...); !bytes.Equal(b, all) || err != why {
		t.Errorf("Expand(%d, %v): %q, %d, not %q, %d", window, l, b, err, all, why)
	}
	size := 0
	for _, x := range l {
		if mayBe(x) {
			size += max(1, x.Len)
		}
	}
	if n := lz.Size(l...); n != size {
		t.Errorf("Size(%v): %d, not %d", l, n, size)
	}
}

// wantBest: Best tells what the chapter says.
func wantBest(t *testing.T, data []byte, at int, k api.Look) {
	t.Helper()
	n, dist := best(data, at, k)
	if m, far, err := lz.Best(data, at, k); m != n || far != dist || err != api.OK {
		t.Errorf("Best(%d bytes, %d, %v): %d, %d, %d, not %d, %d", len(data), at, k, m, far, err, n, dist)
	}
}

// wantParse: Parse answers what the chapter says.
func wantParse(t *testing.T, data []byte, k api.Look, want ...api.Token) {
	t.Helper()
	if l, err := lz.Parse(data, k); !slices.Equal(l, want) || err != api.OK {
		t.Errorf("Parse(%.40q, %v): %v, %d, not %v", data, k, l, err, want)
	}
}

// look: of a window and a chain.
func look(window, chain int) api.Look { return api.Look{Window: window, Chain: chain} }

// lazy: the same, with Lazy.
func lazy(window, chain int) api.Look { return api.Look{Window: window, Chain: chain, Lazy: true} }

// ends: numbers at their ends, and beside zero.
func ends() []int { return []int{math.MinInt, -1 << 31, -258, -1, 0, math.MaxInt} }

// row: so many bytes without a match in them, three at a time.
func row(n int) []byte {
	var out []byte
	for i := 0; len(out) < n; i++ {
		out = append(out, byte(128+i%128), byte(128+i/128%128), byte(i%128))
	}
	return out[:n]
}

// P7.1

func TestCheckExamples(t *testing.T) {
	for i, c := range []struct {
		window int
		l      []api.Token
		at     int
		err    api.Errno
	}{
		{10, []api.Token{lit('b'), match(3, 2)}, 1, api.ErrLzFar},
		{1, []api.Token{lit('b'), lit('b'), match(3, 2)}, 2, api.ErrLzFar},
		{10, []api.Token{match(2, 1)}, 0, api.ErrLzToken},
		{0, nil, 0, api.ErrArg},
		{1, nil, 0, api.OK},
		{2, []api.Token{lit('b'), lit('b'), match(3, 2)}, 0, api.OK},
	} {
		if at, err := lz.Check(c.window, c.l...); at != c.at || err != c.err {
			t.Errorf("%d: %d, %d, not %d, %d", i, at, err, c.at, c.err)
		}
		wantCheck(t, c.window, c.l...)
	}
}

func TestCheckWindows(t *testing.T) {
	for _, l := range [][]api.Token{nil, {lit('a')}, {match(1, 1)}, {match(3, 1)}} {
		for _, window := range append(ends(), 1, 2, api.MaxLook-1, api.MaxLook, api.MaxLook+1) {
			wantCheck(t, window, l...)
		}
	}
	if at, err := lz.Check(api.MaxLook+1, match(1, 1)); at != 0 || err != api.ErrArg {
		t.Errorf("the window stands ahead of the tokens: %d, %d", at, err)
	}
}

func TestCheckTokens(t *testing.T) {
	ahead := lits("abcdefgh")
	lengths := append(ends(), 1, 2, 3, 4, 257, 258, 259)
	dists := append(ends(), 1, 2, 8, 9, api.MaxLook, api.MaxLook+1)
	for _, n := range lengths {
		for _, dist := range dists {
			for _, b := range []byte{0, 1, 255} {
				x := api.Token{Lit: b, Len: n, Dist: dist}
				for _, window := range []int{1, 8, api.MaxLook} {
					wantCheck(t, window, x)
					wantCheck(t, window, append(slices.Clone(ahead), x, match(2, 2))...)
				}
			}
		}
	}
}

func TestCheckTheFirstOfSeveral(t *testing.T) {
	bad, far, good := match(2, 1), match(3, 5), match(3, 1)
	for i, c := range []struct {
		l   []api.Token
		at  int
		err api.Errno
	}{
		{[]api.Token{lit('a'), bad, far}, 1, api.ErrLzToken},
		{[]api.Token{lit('a'), far, bad}, 1, api.ErrLzFar},
		{[]api.Token{lit('a'), good, far, bad}, 2, api.ErrLzFar}, // four bytes stand ahead of it
		{[]api.Token{lit('a'), good, good, far, lit('b'), bad, bad}, 5, api.ErrLzToken},
		// Wrong in two ways at one time: it may not be at all.
		{[]api.Token{{Lit: 1, Len: 3, Dist: 5}}, 0, api.ErrLzToken},
		{[]api.Token{{Len: 3, Dist: api.MaxLook + 1}}, 0, api.ErrLzToken},
	} {
		if at, err := lz.Check(9, c.l...); at != c.at || err != c.err {
			t.Errorf("%d: %d, %d, not %d, %d", i, at, err, c.at, c.err)
		}
	}
}

func TestCheckDistances(t *testing.T) {
	// Just as many bytes as stand ahead, counted by what the tokens are, and one more.
	ahead := []api.Token{lit('a'), match(258, 1), lit('b'), match(3, 2)}
	for dist := 262; dist <= 265; dist++ {
		for window := 262; window <= 265; window++ {
			wantCheck(t, window, append(slices.Clone(ahead), match(3, dist))...)
		}
	}
	// The greatest distance and the greatest window.
	var long []api.Token
	long = append(long, lit('x'), lit('y'))
	for range 127 {
		long = append(long, match(258, 2))
	}
	if n := lz.Size(long...); n != api.MaxLook {
		t.Fatalf("%d bytes", n)
	}
	wantCheck(t, api.MaxLook, append(slices.Clone(long), match(258, api.MaxLook))...)
	wantCheck(t, api.MaxLook-1, append(slices.Clone(long), match(258, api.MaxLook))...)
	wantCheck(t, api.MaxLook, append(slices.Clone(long[1:]), match(258, api.MaxLook))...)
	wantCheck(t, api.MaxLook, append(slices.Clone(long[1:]), lit('z'), match(258, api.MaxLook))...)
}

func TestCheckAnyTokens(t *testing.T) {
	r := rolls(1)
	for range 3000 {
		var l []api.Token
		for range r.below(9) {
			switch r.below(8) {
			case 0:
				l = append(l, api.Token{Lit: byte(r.below(2)), Len: r.below(7), Dist: r.below(4)})
			case 1, 2, 3:
				l = append(l, match(3+r.below(20), 1+r.below(9)))
			default:
				l = append(l, lit(byte('a'+r.below(26))))
			}
		}
		wantCheck(t, 1+r.below(10), l...)
	}
}

// P7.2

func TestExpandExamples(t *testing.T) {
	for _, c := range []struct {
		l    []api.Token
		want string
	}{
		{nil, ""},
		{[]api.Token{lit(0)}, "\x00"},
		{append(lits("abc"), match(6, 3)), "abcabcabc"},
		{[]api.Token{lit('a'), match(3, 1)}, "aaaa"},
		{[]api.Token{lit('a'), match(258, 1)}, strings.Repeat("a", 259)},
		{append(lits("ab"), match(5, 2), lit('c'), match(4, 8)), "abababacabab"},
		{append(lits("abcde"), match(3, 5), match(3, 2)), "abcdeabcbcb"},
	} {
		if b, err := lz.Expand(api.MaxLook, c.l...); string(b) != c.want || err != api.OK {
			t.Errorf("%v: %q, %d, not %q", c.l, b, err, c.want)
		}
	}
}

func TestExpandErrors(t *testing.T) {
	for i, c := range []struct {
		window int
		l      []api.Token
		err    api.Errno
	}{
		{0, lits("a"), api.ErrArg},
		{-1, lits("a"), api.ErrArg},
		{api.MaxLook + 1, lits("a"), api.ErrArg},
		{9, []api.Token{lit('a'), match(3, 2)}, api.ErrLzFar},
		{9, []api.Token{match(3, 1)}, api.ErrLzFar},
		{1, []api.Token{lit('a'), lit('b'), match(3, 2)}, api.ErrLzFar},
		{9, []api.Token{lit('a'), match(259, 1)}, api.ErrLzToken},
		{9, []api.Token{lit('a'), {Dist: 1}}, api.ErrLzToken},
	} {
		if b, err := lz.Expand(c.window, c.l...); len(b) != 0 || err != c.err {
			t.Errorf("%d: %q, %d, not %d", i, b, err, c.err)
		}
	}
}

func TestSize(t *testing.T) {
	for i, c := range []struct {
		l    []api.Token
		want int
	}{
		{nil, 0},
		{lits("abc"), 3},
		{[]api.Token{match(3, 1)}, 3}, // nothing stands ahead: it is counted all the same
		{[]api.Token{match(258, api.MaxLook), lit('a')}, 259},   // so is the greatest distance
		{[]api.Token{match(258, api.MaxLook+1), lit('a')}, 1},   // but not one more
		{[]api.Token{match(3, 0), match(3, -1), lit('a')}, 1},   // no distance
		{[]api.Token{match(2, 1), match(1, 1), lit('a')}, 1},    // too short
		{[]api.Token{match(259, 1), match(-3, 1), lit('a')}, 1}, // too long, and below 0
		{[]api.Token{{Lit: 'b', Len: 3, Dist: 1}, lit('a')}, 1}, // a match with a byte
		{[]api.Token{{Lit: 'b', Dist: 1}, lit('a')}, 1},         // a byte with a distance
		{[]api.Token{{Dist: -1}, lit('a')}, 1},
		{[]api.Token{match(math.MaxInt, 1), match(math.MaxInt, 2), match(math.MinInt, 3), lit('a')}, 1},
	} {
		if n := lz.Size(c.l...); n != c.want {
			t.Errorf("%d: %d, not %d", i, n, c.want)
		}
	}
}

// P7.3

func TestOptions(t *testing.T) {
	for _, window := range append(ends(), 1, 2, api.MaxLook-1, api.MaxLook, api.MaxLook+1) {
		for _, chain := range append(ends(), 1, 2, api.MaxChain-1, api.MaxChain, api.MaxChain+1) {
			want := api.OK
			if window < 1 || window > 32768 || chain < 0 || chain > 4096 {
				want = api.ErrLzOption
			}
			for _, k := range []api.Look{look(window, chain), lazy(window, chain)} {
				if err := lz.Options(k); err != want {
					t.Errorf("%v: %d, not %d", k, err, want)
				}
				_, _, ofBest := lz.Best([]byte("abc"), 0, k)
				_, ofParse := lz.Parse([]byte("abc"), k)
				_, _, ofCheapest := lz.Cheapest([]byte("abc"), k, api.Price{})
				if ofBest != want || ofParse != want || ofCheapest != want {
					t.Errorf("%v: %d, %d, %d, not %d", k, ofBest, ofParse, ofCheapest, want)
				}
			}
		}
	}
}

// P7.4

func TestBestExamples(t *testing.T) {
	text := []byte("xabcyabcabcd")
	for _, chain := range []int{1, 2, api.MaxChain} {
		if n, dist, err := lz.Best(text, 8, look(100, chain)); n != 3 || dist != 3 || err != api.OK {
			t.Errorf("chain %d: %d, %d, %d", chain, n, dist, err)
		}
	}
	if n, dist, err := lz.Best(text, 8, look(100, 0)); n != 0 || dist != 0 || err != api.OK {
		t.Errorf("chain 0: %d, %d, %d", n, dist, err)
	}
}

func TestBestPlaces(t *testing.T) {
	k := look(10, 10)
	for _, data := range [][]byte{nil, {}, []byte("a"), []byte("aaaa")} {
		for _, at := range append(ends(), 1, 3, 4, 5) {
			n, dist, err := lz.Best(data, at, k)
			if at < 0 || at >= len(data) {
				if n != 0 || dist != 0 || err != api.ErrArg {
					t.Errorf("%q, %d: %d, %d, %d", data, at, n, dist, err)
				}
				if n, dist, err := lz.Best(data, at, look(0, 10)); n != 0 || dist != 0 || err != api.ErrLzOption {
					t.Errorf("%q, %d: the options stand ahead of the place: %d, %d, %d", data, at, n, dist, err)
				}
				continue
			}
			wantBest(t, data, at, k)
		}
	}
}

func TestBestNearTheEnd(t *testing.T) {
	for _, s := range []string{"a", "aa", "aaa", "aaaa", "abab", "ababa", "abcabc", "abcdabcd"} {
		for at := range len(s) {
			wantBest(t, []byte(s), at, look(100, 100))
		}
	}
	for i, c := range []struct {
		s           string
		at, n, dist int
	}{
		{"aaa", 0, 0, 0}, {"aaa", 1, 0, 0}, {"aaaa", 1, 3, 1}, {"aaaa", 2, 0, 0}, {"aaaa", 3, 0, 0},
		{"ababa", 2, 3, 2}, {"abcabc", 3, 3, 3}, {"abcabca", 3, 4, 3}, {"abcabc", 4, 0, 0},
	} {
		if n, dist, err := lz.Best([]byte(c.s), c.at, look(100, 100)); n != c.n || dist != c.dist || err != api.OK {
			t.Errorf("%d: %d, %d, %d, not %d, %d", i, n, dist, err, c.n, c.dist)
		}
	}
}

func TestBestChain(t *testing.T) {
	// The further, the longer: as many bytes as candidates are looked at.
	text := []byte("abcdefg-abcdef-abcde-abcd-abc-abcdefgh")
	at := bytes.LastIndexByte(text, '-') + 1
	for chain, want := range [][2]int{{0, 0}, {3, 4}, {4, 9}, {5, 15}, {6, 22}, {7, 30}, {7, 30}} {
		if n, dist, err := lz.Best(text, at, look(100, chain)); n != want[0] || dist != want[1] || err != api.OK {
			t.Errorf("chain %d: %d, %d, %d, not %v", chain, n, dist, err, want)
		}
	}
	// The nearer, the longer; and of those with the same number the nearest.
	text = []byte("abc-abcd-abcde-abcdx-abcde-abcdef")
	at = bytes.LastIndexByte(text, '-') + 1
	for chain := range 7 {
		n, dist, err := lz.Best(text, at, look(100, chain))
		if err != api.OK || chain == 0 && (n != 0 || dist != 0) || chain > 0 && (n != 5 || dist != 6) {
			t.Errorf("chain %d: %d, %d, %d", chain, n, dist, err)
		}
	}
}

func TestBestMaxChain(t *testing.T) {
	// The longest stands behind as many candidates as may be looked at, or one less.
	for _, nearer := range []int{api.MaxChain - 1, api.MaxChain} {
		text := []byte("abcz" + strings.Repeat("abcy", nearer) + "abcz")
		at := len(text) - 4
		n, dist, err := lz.Best(text, at, look(api.MaxLook, api.MaxChain))
		want := [2]int{4, at}
		if nearer == api.MaxChain {
			want = [2]int{3, 4}
		}
		if n != want[0] || dist != want[1] || err != api.OK {
			t.Errorf("%d nearer: %d, %d, %d, not %v", nearer, n, dist, err, want)
		}
	}
}

func TestBestWindow(t *testing.T) {
	for _, dist := range []int{3, 4, 5, 100, 257, 258, 259, 1000, api.MaxLook - 1, api.MaxLook, api.MaxLook + 1} {
		text := append([]byte("abc"), row(dist-3)...)
		text = append(text, "abcd"...)
		for window := dist - 2; window <= dist+2; window++ {
			if window > api.MaxLook {
				continue
			}
			want := [2]int{}
			if dist <= window {
				want = [2]int{3, dist}
			}
			if n, far, err := lz.Best(text, dist, look(window, api.MaxChain)); n != want[0] || far != want[1] || err != api.OK {
				t.Errorf("window %d: %d, %d, %d, not %v", window, n, far, err, want)
			}
			// Bytes ahead of the window, and behind the match, have no part.
			more := append(append([]byte("abcd"), row(40)...), text...)
			if n, far, err := lz.Best(more, dist+44, look(window, api.MaxChain)); dist+44 > window && (n != want[0] || far != want[1] || err != api.OK) {
				t.Errorf("window %d, more ahead: %d, %d, %d, not %v", window, n, far, err, want)
			}
		}
	}
}

func TestBestMaxMatch(t *testing.T) {
	for _, n := range []int{257, 258, 259, 260, 300, 600} {
		run := bytes.Repeat([]byte("r"), n)
		for _, at := range []int{1, 2, n - 259, n - 258, n - 257, n - 4, n - 3, n - 2, n - 1} {
			if at < 0 {
				continue
			}
			wantBest(t, run, at, look(1, 1))
			wantBest(t, run, at, look(300, 300))
		}
	}
	if n, dist, err := lz.Best(bytes.Repeat([]byte("ab"), 400), 300, look(500, 500)); n != 258 || dist != 2 || err != api.OK {
		t.Errorf("%d, %d, %d", n, dist, err)
	}
	// A nearer one of a byte less, and a further one of a byte more than is counted.
	base := row(300)
	text := slices.Concat(base, []byte{0}, base[:257], []byte{1}, base)
	at := len(text) - 300
	for _, window := range []int{257 + 1, at} {
		wantBest(t, text, at, look(window, 10))
	}
}

func TestBestAnyText(t *testing.T) {
	r := rolls(4)
	for i := range 600 {
		data := r.patched(1+r.below(120), 1+r.below(4))
		if i%3 == 0 {
			data = r.text(1+r.below(120), 1+r.below(3))
		}
		k := look(1+r.below(130), r.below(6))
		for at := range data {
			wantBest(t, data, at, k)
		}
	}
}

// P7.5

func TestParseExamples(t *testing.T) {
	wantParse(t, []byte("abcabcabc"), look(100, 10), append(lits("abc"), match(6, 3))...)
	wantParse(t, []byte("aaaa"), look(1, 1), lit('a'), match(3, 1))
	text := []byte("abcbcdeabcde")
	wantParse(t, text, lazy(100, 10), append(lits("abcbcdea"), match(4, 5))...)
	wantParse(t, text, look(100, 10), append(lits("abcbcde"), match(3, 7), lit('d'), lit('e'))...)
}

func TestParseFewBytes(t *testing.T) {
	for _, s := range []string{"", "a", "aa", "aaa", "ab", "aba"} {
		for _, k := range []api.Look{look(1, 1), lazy(1, 1), look(api.MaxLook, api.MaxChain), lazy(api.MaxLook, api.MaxChain)} {
			wantParse(t, []byte(s), k, lits(s)...)
		}
	}
	if l, err := lz.Parse(nil, look(1, 0)); len(l) != 0 || err != api.OK {
		t.Errorf("%v, %d", l, err)
	}
}

func TestParseErrors(t *testing.T) {
	for _, k := range []api.Look{look(0, 1), look(-1, 1), look(api.MaxLook+1, 1), look(1, -1), look(1, api.MaxChain+1), {}} {
		for _, data := range [][]byte{nil, []byte("aaaa")} {
			if l, err := lz.Parse(data, k); len(l) != 0 || err != api.ErrLzOption {
				t.Errorf("%v: %v, %d", k, l, err)
			}
		}
	}
}

func TestParseRuns(t *testing.T) {
	for _, k := range []api.Look{look(1, 1), lazy(1, 1), look(api.MaxLook, api.MaxChain), lazy(api.MaxLook, api.MaxChain)} {
		for n, want := range map[int][]api.Token{
			258:       {match(257, 1)},
			259:       {match(258, 1)},
			260:       {match(258, 1), lit('r')},
			261:       {match(258, 1), lit('r'), lit('r')},
			262:       {match(258, 1), match(3, 1)},
			517:       {match(258, 1), match(258, 1)},
			518:       {match(258, 1), match(258, 1), lit('r')},
			2*258 + 9: {match(258, 1), match(258, 1), match(8, 1)},
		} {
			wantParse(t, bytes.Repeat([]byte("r"), n), k, append([]api.Token{lit('r')}, want...)...)
		}
	}
}

func TestParseLazy(t *testing.T) {
	// No longer match at the next place: the match stays, though a later place has a longer one.
	wantParse(t, []byte("abcd-cdefgh-abcdefgh"), lazy(100, 10), append(lits("abcd-cdefgh-"), match(4, 12), match(4, 9))...)
	// The next place has just as many: the match stays.
	wantParse(t, []byte("abc-bcd-abcd"), lazy(100, 10), append(lits("abc-bcd-"), match(3, 8), lit('d'))...)
	// One more: the byte.
	wantParse(t, []byte("abc-bcde-abcde"), lazy(100, 10), append(lits("abc-bcde-a"), match(4, 6))...)
	// Longer each time: byte by byte.
	wantParse(t, []byte("abc-bcde-cdefg-abcdefg"), lazy(100, 10), slices.Concat(lits("abc-bcde-"), []api.Token{match(3, 4)}, lits("fg-ab"), []api.Token{match(5, 8)})...)
	wantParse(t, []byte("abc-bcde-cdefg-abcdefg"), look(100, 10), slices.Concat(lits("abc-bcde-"), []api.Token{match(3, 4)}, lits("fg-"), []api.Token{match(3, 15), match(4, 8)})...)
	// The match ends with the data; at the next place fewer than three bytes are left.
	wantParse(t, []byte("abcabc"), lazy(100, 10), append(lits("abc"), match(3, 3))...)
	// The place itself is a candidate of the next one.
	wantParse(t, []byte("aaab-aaaaaaaa"), lazy(100, 10), append(lits("aaab-a"), match(7, 1))...)
	// The next place is looked at anew, with its own window: the longer match may lie just within it, or not.
	wantParse(t, []byte("bcde1abc2abcde"), lazy(10, 10), append(lits("bcde1abc2a"), match(4, 10))...)
	wantParse(t, []byte("bcde1abc2abcde"), lazy(9, 10), append(lits("bcde1abc2"), match(3, 4), lit('d'), lit('e'))...)
}

func TestParseAnyText(t *testing.T) {
	r := rolls(5)
	for i := range 2000 {
		data := r.patched(r.below(150), 1+r.below(4))
		if i%3 == 0 {
			data = r.text(r.below(150), 1+r.below(3))
		}
		k := api.Look{Window: 1 + r.below(160), Chain: r.below(6), Lazy: i%2 == 0}
		wantParse(t, data, k, parsed(data, k)...)
	}
}

func TestParseGreatWindow(t *testing.T) {
	for _, dist := range []int{api.MaxLook - 1, api.MaxLook, api.MaxLook + 1} {
		// What stands between has no three bytes of the words.
		text := append([]byte("abcd"), make([]byte, dist-4)...)
		text = append(text, "abcde"...)
		for _, window := range []int{dist - 1, dist} {
			if window > api.MaxLook {
				continue
			}
			l, err := lz.Parse(text, look(window, api.MaxChain))
			want := lits("abcde")
			if window == dist {
				want = []api.Token{match(4, dist), lit('e')}
			}
			if err != api.OK || len(l) < len(want) || !slices.Equal(l[len(l)-len(want):], want) {
				t.Errorf("distance %d, window %d: %d: %v", dist, window, err, l[max(0, len(l)-6):])
			}
		}
	}
}

// P7.6

func TestExpandOfParse(t *testing.T) {
	r := rolls(6)
	for i := range 300 {
		data := r.patched(r.below(3000), 1+r.below(256))
		k := api.Look{Window: 1 + r.below(1+r.below(4000)), Chain: r.below(1 + r.below(300)), Lazy: i%2 == 0}
		l, err := lz.Parse(data, k)
		if at, why := lz.Check(k.Window, l...); err != api.OK || at != 0 || why != api.OK {
			t.Fatalf("%v: %d; %d, %d", k, err, at, why)
		}
		if b, err := lz.Expand(k.Window, l...); !bytes.Equal(b, data) || err != api.OK {
			t.Fatalf("%v: %d bytes of %d, %d", k, len(b), len(data), err)
		}
		if n := lz.Size(l...); n != len(data) {
			t.Fatalf("%v: %d bytes of %d", k, n, len(data))
		}
	}
}

func TestExpandOfParseGreat(t *testing.T) {
	r := rolls(66)
	for _, data := range [][]byte{r.text(70000, 2), r.text(70000, 26), r.patched(200000, 256), make([]byte, 200000), row(49152)} {
		for _, k := range []api.Look{look(1, 1), lazy(api.MaxLook, 20), look(api.MaxLook, api.MaxChain)} {
			l, err := lz.Parse(data, k)
			if err != api.OK {
				t.Fatalf("%v: %d", k, err)
			}
			if b, err := lz.Expand(k.Window, l...); !bytes.Equal(b, data) || err != api.OK {
				t.Fatalf("%v: %d bytes of %d, %d", k, len(b), len(data), err)
			}
		}
	}
}

// P7.7

func TestChainNoughtIsBytes(t *testing.T) {
	r := rolls(7)
	for range 50 {
		data := r.patched(r.below(300), 2)
		for _, k := range []api.Look{look(1, 0), lazy(api.MaxLook, 0)} {
			wantParse(t, data, k, lits(string(data))...)
		}
	}
}

func TestNoMatchCouldBeLonger(t *testing.T) {
	r := rolls(77)
	for range 60 {
		data := r.patched(r.below(800), 1+r.below(5))
		l, err := lz.Parse(data, look(api.MaxLook, api.MaxChain))
		if err != api.OK {
			t.Fatal(err)
		}
		at := 0
		for _, x := range l {
			most := 0
			for dist := 1; dist <= at; dist++ {
				most = max(most, common(data, at, dist))
			}
			if x.Len > 0 && x.Len != most || x.Len == 0 && most >= 3 {
				t.Fatalf("at %d of %q: %v, but %d bytes are there", at, data, x, most)
			}
			at += max(1, x.Len)
		}
	}
}

// P7.8

func TestBeginnings(t *testing.T) {
	r := rolls(8)
	for range 60 {
		data := r.patched(r.below(200), 1+r.below(4))
		l, err := lz.Parse(data, look(1+r.below(200), 1+r.below(9)))
		if err != api.OK {
			t.Fatal(err)
		}
		for n := range len(l) + 1 {
			head, err := lz.Expand(api.MaxLook, l[:n]...)
			if err != api.OK || !bytes.HasPrefix(data, head) || len(head) != lz.Size(l[:n]...) {
				t.Fatalf("%d of %v: %q, %d", n, l, head, err)
			}
			whole, err := lz.Expand(api.MaxLook, slices.Concat(l[:n], l[n:])...)
			if err != api.OK || !bytes.Equal(whole, grown(slices.Clone(head), l[n:]...)) {
				t.Fatalf("%d of %v, and the others: %q, %d", n, l, whole, err)
			}
		}
	}
	// The second list may go over the bytes of the first.
	one, other := lits("abc"), []api.Token{match(4, 2), match(3, 7)}
	if b, err := lz.Expand(9, slices.Concat(one, other)...); string(b) != "abcbcbcabc" || err != api.OK {
		t.Errorf("%q, %d", b, err)
	}
}

// R3, R4

// spare: the same, with room behind the end that is marked.
func spare[E any](l []E, mark E) []E {
	out := make([]E, len(l), len(l)+8)
	copy(out, l)
	for i := len(l); i < cap(out); i++ {
		out[:cap(out)][i] = mark
	}
	return out
}

// untouched: is the list as it was, and the room behind its end?
func untouched[E comparable](l, was []E, mark E) bool {
	if !slices.Equal(l, was) {
		return false
	}
	for _, x := range l[len(l):cap(l)] {
		if x != mark {
			return false
		}
	}
	return true
}

func TestArgumentsStay(t *testing.T) {
	was := []byte("abcabcabcxabcabcxyz")
	data := spare(was, 'a')
	k := lazy(100, 10)
	lz.Best(data, 3, k)
	lz.Parse(data, k)
	lz.Cheapest(data, k, api.Price{Lit: 8, Match: 3, Far: 1})
	if !untouched(data, was, 'a') {
		t.Errorf("the data have changed: %q", data[:cap(data)])
	}
	tokens := append(lits("abc"), match(6, 3))
	l := spare(tokens, lit('z'))
	lz.Check(9, l...)
	lz.Expand(9, l...)
	lz.Size(l...)
	if !untouched(l, tokens, lit('z')) {
		t.Errorf("the tokens have changed: %v", l[:cap(l)])
	}
}

func TestAnswersAreNew(t *testing.T) {
	data := []byte("abcabcabcxabcabcxyz")
	k := lazy(100, 10)
	first, _ := lz.Parse(data, k)
	want := slices.Clone(first)
	for i := range first[:cap(first)] {
		first[:cap(first)][i] = lit('#')
	}
	wantParse(t, data, k, want...)
	second, _ := lz.Parse(data, k)
	_ = append(second, lit('!'))
	clear(data)
	if !slices.Equal(second, want) {
		t.Errorf("an answer has changed with the data: %v", second)
	}
	one, _ := lz.Expand(100, want...)
	other, _ := lz.Expand(100, want...)
	for i := range one[:cap(one)] {
		one[:cap(one)][i] = '#'
	}
	if string(other) != "abcabcabcxabcabcxyz" {
		t.Errorf("two answers share their bytes: %q", other)
	}
	second[0] = lit('%')
	if string(other) != "abcabcabcxabcabcxyz" {
		t.Errorf("the bytes hang on the tokens: %q", other)
	}
}

func TestTheSameEachTime(t *testing.T) {
	r := rolls(9)
	data := r.patched(4000, 3)
	k := api.Look{Window: 900, Chain: 7, Lazy: true}
	want, _ := lz.Parse(data, k)
	for range 5 {
		wantParse(t, slices.Grow(slices.Clone(data), 100+r.below(100)), k, want...)
	}
}
