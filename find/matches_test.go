package find_test

import (
	"bytes"
	"math"
	"slices"
	"testing"

	"sapper/api"
	"sapper/find"
	"sapper/suffix"
)

// matches, factors: the answers of an index that a call made, and of numbers that may be.
func matches(t *testing.T, x *suffix.Index, p []byte, least, most int) []find.Match {
	t.Helper()
	l, err := find.Matches(x, p, least, most)
	if err != api.OK {
		t.Fatalf("Matches(of %d bytes, %d, %d): %v", len(p), least, most, err)
	}
	return l
}

func factors(t *testing.T, x *suffix.Index, p []byte) []find.Match {
	t.Helper()
	l, err := find.Factors(x, p)
	if err != api.OK {
		t.Fatalf("Factors(of %d bytes): %v", len(p), err)
	}
	return l
}

// P14.9, P14.12: the chapter's examples.
func TestMatchExamples(t *testing.T) {
	x := index(t, []byte("banana"))
	for _, c := range []struct {
		p           string
		least, most int
		want        []find.Match
	}{
		{"ana", 2, 9, []find.Match{{1, 0, 3}, {3, 0, 3}}},
		{"nab", 2, 9, []find.Match{{2, 0, 2}, {4, 0, 2}}},
		{"nab", 2, 1, []find.Match{{2, 0, 2}}},
	} {
		if l := matches(t, x, []byte(c.p), c.least, c.most); !slices.Equal(l, c.want) {
			t.Errorf("Matches(%q, %d, %d) = %v", c.p, c.least, c.most, l)
		}
	}
	if l := factors(t, x, []byte("nabxa")); !slices.Equal(l, []find.Match{{2, 0, 2}, {0, 2, 1}, {0, 3, 0}, {1, 4, 1}}) {
		t.Error("Factors:", l)
	}
}

// P14.9: all matches, by New and Old; with each least that may tell them apart, and most around how many there are.
func TestMatches(t *testing.T) {
	for _, c := range pairs() {
		x := index(t, c.d)
		whole := matchesOf(c.d, c.p, 1)
		holdMatches(t, x, c, 1, whole)
		longest := 0
		for _, m := range whole {
			longest = max(longest, m.Len)
		}
		for _, least := range []int{2, 3, longest, longest + 1, len(c.d), len(c.p) + 1, math.MaxInt} {
			if least > 1 {
				holdMatches(t, x, c, least, slices.DeleteFunc(slices.Clone(whole), func(m find.Match) bool { return m.Len < least }))
			}
		}
	}
}

// holdMatches: the first ones, however many are asked for.
func holdMatches(t *testing.T, x *suffix.Index, c pair, least int, want []find.Match) {
	t.Helper()
	n := len(want)
	for _, most := range []int{0, 1, 2, n / 2, n - 1, n, n + 1, api.MaxImage} {
		if most < 0 {
			continue
		}
		if l := matches(t, x, c.p, least, most); !slices.Equal(l, want[:min(n, most)]) {
			t.Fatalf("of %q: Matches(%q, %d, %d) = %v, not the first of %v", c.d, c.p, least, most, l, want)
		}
	}
}

// P14.9: the edges, written out: matches that end at the data's ends, at p's ends, at unlike bytes; several of one New.
func TestMatchEdges(t *testing.T) {
	for _, c := range []struct {
		d, p  string
		least int
		want  []find.Match
	}{
		{"", "", 1, nil}, {"", "a", 1, nil}, {"a", "", 1, nil}, {"a", "b", 1, nil},
		{"a", "a", 1, []find.Match{{0, 0, 1}}}, {"a", "a", 2, nil},
		{"aa", "a", 1, []find.Match{{0, 0, 1}, {1, 0, 1}}}, {"a", "aa", 1, []find.Match{{0, 0, 1}, {0, 1, 1}}},
		{"aa", "aa", 1, []find.Match{{0, 0, 2}, {1, 0, 1}, {0, 1, 1}}},
		{"abc", "abc", 1, []find.Match{{0, 0, 3}}},
		{"xabcy", "abc", 1, []find.Match{{1, 0, 3}}},   // at both of p's ends
		{"abc", "xabcy", 1, []find.Match{{0, 1, 3}}},   // at both of the data's ends
		{"xabcy", "zabcw", 1, []find.Match{{1, 1, 3}}}, // at unlike bytes
		{"abcx", "yabc", 1, []find.Match{{0, 1, 3}}},   // at the data's begin, at p's end
		{"xabc", "abcy", 1, []find.Match{{1, 0, 3}}},   // at p's begin, at the data's end
		{"\x00\xff", "\xff\x00", 1, []find.Match{{1, 0, 1}, {0, 1, 1}}},
		{"abzab-ab", "qab", 2, []find.Match{{0, 1, 2}, {3, 1, 2}, {6, 1, 2}}}, // the ranks: 6, 3, 0
		{"abz", "abab", 1, []find.Match{{0, 0, 2}, {0, 2, 2}}},
	} {
		if l := matches(t, index(t, []byte(c.d)), []byte(c.p), c.least, 99); !slices.Equal(l, c.want) {
			t.Errorf("of %q: Matches(%q, %d, 99) = %v, not %v", c.d, c.p, c.least, l, c.want)
		}
	}
}

// P14.10: two places with the same byte lie in just one match; so that the Lens are as many as there are such pairs of places.
func TestPairsLieInOneMatch(t *testing.T) {
	for _, c := range pairs() {
		in := map[[2]int]int{}
		total := 0
		for _, m := range matches(t, index(t, c.d), c.p, 1, api.MaxImage) {
			if !isMatch(c.d, c.p, m) {
				t.Fatalf("of %q: %v is no match of %q", c.d, m, c.p)
			}
			total += m.Len
			for i := range m.Len {
				in[[2]int{m.Old + i, m.New + i}]++
			}
		}
		same := 0
		for o := range c.d {
			for n := range c.p {
				if c.d[o] != c.p[n] {
					continue
				}
				same++
				if in[[2]int{o, n}] != 1 {
					t.Fatalf("of %q, and %q: the places %d and %d lie in %d matches", c.d, c.p, o, n, in[[2]int{o, n}])
				}
			}
		}
		if total != same {
			t.Fatalf("of %q, and %q: Lens of %d, %d pairs of places", c.d, c.p, total, same)
		}
	}
}

// P14.11: of the data itself the first match is all of it, whatever least is, and however many are asked for.
func TestMatchesOfItself(t *testing.T) {
	data := slices.Concat(words(), short(6, 2))
	for _, s := range shapes(300) {
		data = append(data, s.data)
	}
	for _, d := range data {
		n := len(d)
		if n == 0 {
			continue
		}
		x := index(t, d)
		for _, least := range []int{1, (n + 1) / 2, n} {
			for _, most := range []int{1, 2, n + 1} {
				if l := matches(t, x, d, least, most); len(l) == 0 || l[0] != (find.Match{Old: 0, New: 0, Len: n}) {
					t.Fatalf("of %q: Matches of itself, %d, %d: %v", d, least, most, l)
				}
			}
		}
		if l := matches(t, x, d, n+1, 9); len(l) != 0 {
			t.Fatalf("of %q: matches of more bytes than there are: %v", d, l)
		}
	}
}

// P14.12: the parts, by what Longest tells; P14.13: they are p, one behind the other, and no fewer will do.
func TestFactors(t *testing.T) {
	for _, c := range pairs() {
		l := factors(t, index(t, c.d), c.p)
		if want := factorsOf(c.d, c.p); !slices.Equal(l, want) {
			t.Fatalf("of %q: Factors(%q) = %v, not %v", c.d, c.p, l, want)
		}
		holdParts(t, c.d, c.p, l)
		if len(c.p) <= 20 {
			if n := fewestOf(c.d, c.p); n != len(l) {
				t.Fatalf("of %q: Factors(%q) = %v: %d parts will do", c.d, c.p, l, n)
			}
		}
	}
}

// holdParts: each stands in the data where it says, or is one byte that stands nowhere, and they are p.
func holdParts(t *testing.T, d, p []byte, parts []find.Match) {
	t.Helper()
	at := 0
	for _, m := range parts {
		if m.New != at || at >= len(p) {
			t.Fatalf("of %q: the parts of %q: %v", d, p, parts)
		}
		if m.Len == 0 {
			if m.Old != 0 || bytes.IndexByte(d, p[at]) >= 0 {
				t.Fatalf("of %q: a part of %q that stands nowhere: %v", d, p, m)
			}
			at++
			continue
		}
		if m.Len < 0 || at+m.Len > len(p) || !stands(d, p[at:at+m.Len], m.Old) {
			t.Fatalf("of %q: a part of %q: %v", d, p, m)
		}
		at += m.Len
	}
	if at != len(p) {
		t.Fatalf("of %q: the parts of %q end at %d", d, p, at)
	}
}

// P14.12, P14.13: the edges, written out: bytes that stand nowhere at the front, in the middle and at the end; the longest part is not the one that another row would begin with.
func TestFactorEdges(t *testing.T) {
	for _, c := range []struct {
		d, p string
		want []find.Match
	}{
		{"", "", nil}, {"ab", "", nil}, {"", "ab", []find.Match{{0, 0, 0}, {0, 1, 0}}},
		{"a", "a", []find.Match{{0, 0, 1}}}, {"a", "aa", []find.Match{{0, 0, 1}, {0, 1, 1}}},
		{"ab", "xab", []find.Match{{0, 0, 0}, {0, 1, 2}}},
		{"ab", "axb", []find.Match{{0, 0, 1}, {0, 1, 0}, {1, 2, 1}}},
		{"ab", "abx", []find.Match{{0, 0, 2}, {0, 2, 0}}},
		{"ab", "xxabxx", []find.Match{{0, 0, 0}, {0, 1, 0}, {0, 2, 2}, {0, 4, 0}, {0, 5, 0}}},
		{"abc-ab-cde", "abcde", []find.Match{{0, 0, 3}, {8, 3, 2}}},                 // ab and cde are two parts, too
		{"ab-abc-bcdef-cd", "abcdef", []find.Match{{3, 0, 3}, {9, 3, 3}}},           // a and bcdef as well
		{"aab", "aaab", []find.Match{{0, 0, 2}, {1, 2, 2}}},                         // a and aab
		{"aaaa", "aaaaaaaaa", []find.Match{{0, 0, 4}, {0, 4, 4}, {0, 8, 1}}},        //
		{"xaba-ab", "abab", []find.Match{{1, 0, 3}, {2, 3, 1}}},                     //
		{"banana", "bananabanana", []find.Match{{0, 0, 6}, {0, 6, 6}}},              //
		{"\x00\xff", "\x01\xff\x00", []find.Match{{0, 0, 0}, {1, 1, 1}, {0, 2, 1}}}, //
		{"nab", "banana", []find.Match{{2, 0, 1}, {1, 1, 1}, {0, 2, 2}, {0, 4, 2}}}, //
	} {
		if l := factors(t, index(t, []byte(c.d)), []byte(c.p)); !slices.Equal(l, c.want) {
			t.Errorf("of %q: Factors(%q) = %v, not %v", c.d, c.p, l, c.want)
		}
	}
}

// P14.12: many parts that each stand at many places, of data of many lengths: wherever these stand, the least one is told.
func TestFactorsOfManyPlaces(t *testing.T) {
	r := rolls(5)
	for _, n := range []int{1, 2, 15, 16, 17, 31, 32, 33, 255, 256, 257, 300, 1000, 4095, 4096, 4097, 5000} {
		d := slices.Concat(bytes.Repeat([]byte("b"), r.below(n)), r.data(n, 3))[:n]
		for _, d := range [][]byte{d, counted(n, func(i int) int { return 2 * i / n }), r.copied(n, 2), r.data(n, 4)} {
			p := slices.Concat(r.copied(300, 3), bytes.Repeat([]byte("axbx\x00x\x01x"), 30), r.data(300, 4), r.data(100, 256))
			l := factors(t, index(t, d), p)
			if want := factorsOf(d, p); !slices.Equal(l, want) {
				t.Fatalf("of %d bytes: Factors = %v, not %v", n, l, want)
			}
		}
	}
}
