package find_test

import (
	"slices"
	"testing"

	"sapper/api"
	"sapper/find"
	"sapper/suffix"
)

// index: of data that may be.
func index(t *testing.T, d []byte) *suffix.Index {
	t.Helper()
	x, err := suffix.New(d)
	if err != api.OK || x == nil {
		t.Fatalf("New(of %d bytes): %v", len(d), err)
	}
	return x
}

// rangeIn, count, all, longest, statistics, distinct: the answers of an index that a call made.
func rangeIn(t *testing.T, x *suffix.Index, p []byte) (int, int) {
	t.Helper()
	lo, hi, err := find.Range(x, p)
	if err != api.OK {
		t.Fatalf("Range(of %d bytes): %v", len(p), err)
	}
	return lo, hi
}

func count(t *testing.T, x *suffix.Index, p []byte) int {
	t.Helper()
	n, err := find.Count(x, p)
	if err != api.OK {
		t.Fatalf("Count(of %d bytes): %v", len(p), err)
	}
	return n
}

func all(t *testing.T, x *suffix.Index, p []byte) []int {
	t.Helper()
	l, err := find.All(x, p)
	if err != api.OK {
		t.Fatalf("All(of %d bytes): %v", len(p), err)
	}
	return l
}

func longest(t *testing.T, x *suffix.Index, p []byte) (int, int) {
	t.Helper()
	at, m, err := find.Longest(x, p)
	if err != api.OK {
		t.Fatalf("Longest(of %d bytes): %v", len(p), err)
	}
	return at, m
}

func statistics(t *testing.T, x *suffix.Index, p []byte) []int {
	t.Helper()
	l, err := find.Statistics(x, p)
	if err != api.OK {
		t.Fatalf("Statistics(of %d bytes): %v", len(p), err)
	}
	return l
}

func distinct(t *testing.T, x *suffix.Index) int {
	t.Helper()
	n, err := find.Distinct(x)
	if err != api.OK {
		t.Fatalf("Distinct: %v", err)
	}
	return n
}

// P14.1 to P14.5: the chapter's examples.
func TestExamples(t *testing.T) {
	x := index(t, []byte("banana"))
	for p, want := range map[string][2]int{"an": {1, 3}, "": {0, 6}, "b": {3, 4}, "c": {4, 4}, "a": {0, 3}, "bananas": {4, 4}} {
		if lo, hi := rangeIn(t, x, []byte(p)); lo != want[0] || hi != want[1] {
			t.Errorf("Range(%q) = %d, %d", p, lo, hi)
		}
	}
	for p, want := range map[string][]int{"a": {1, 3, 5}, "ana": {1, 3}, "": {0, 1, 2, 3, 4, 5}, "x": nil} {
		if l, n := all(t, x, []byte(p)), count(t, x, []byte(p)); !slices.Equal(l, want) || n != len(want) {
			t.Errorf("All(%q), Count: %v, %d", p, l, n)
		}
	}
	for p, want := range map[string][2]int{"anab": {1, 3}, "xyz": {0, 0}, "na": {2, 2}, "": {0, 0}} {
		if at, m := longest(t, x, []byte(p)); at != want[0] || m != want[1] {
			t.Errorf("Longest(%q) = %d, %d", p, at, m)
		}
	}
	if l := statistics(t, x, []byte("nabana")); !slices.Equal(l, []int{2, 1, 4, 3, 2, 1}) {
		t.Error("Statistics:", l)
	}
	if n := distinct(t, x); n != 15 {
		t.Error("Distinct:", n)
	}
}

// P14.1: how many suffixes are less than p, and how many are less or begin with it; P14.2: at which places p stands.
func TestRange(t *testing.T) {
	for _, c := range pairs() {
		x := index(t, c.d)
		lo, hi := rangeIn(t, x, c.p)
		if wantLo, wantHi := rangeOf(c.d, c.p); lo != wantLo || hi != wantHi {
			t.Fatalf("of %q: Range(%q) = %d, %d, not %d, %d", c.d, c.p, lo, hi, wantLo, wantHi)
		}
		want := allOf(c.d, c.p)
		if n := count(t, x, c.p); n != hi-lo || n != len(want) {
			t.Fatalf("of %q: Count(%q) = %d", c.d, c.p, n)
		}
		if l := all(t, x, c.p); !slices.Equal(l, want) {
			t.Fatalf("of %q: All(%q) = %v, not %v", c.d, c.p, l, want)
		}
	}
}

// P14.1, P14.2: the edges, written out: no byte, p that goes on behind the data's end, bytes without a sign, places that overlap.
func TestRangeEdges(t *testing.T) {
	for _, c := range []struct {
		d, p   string
		lo, hi int
		all    []int
	}{
		{"", "", 0, 0, nil}, {"", "a", 0, 0, nil}, {"", "\x00", 0, 0, nil},
		{"a", "", 0, 1, []int{0}}, {"a", "a", 0, 1, []int{0}}, {"a", "aa", 1, 1, nil}, {"a", "b", 1, 1, nil}, {"a", "A", 0, 0, nil},
		{"ab", "ab", 0, 1, []int{0}}, {"ab", "b", 1, 2, []int{1}}, {"ab", "aa", 0, 0, nil}, {"ab", "abc", 1, 1, nil}, {"ab", "bc", 2, 2, nil},
		{"\x00", "\x00", 0, 1, []int{0}}, {"\x00", "\x00\x00", 1, 1, nil}, {"\xff", "\xff", 0, 1, []int{0}}, {"\xff", "\xff\xff", 1, 1, nil},
		{"\x7f\x80", "\x7f", 0, 1, []int{0}}, {"\x7f\x80", "\x80", 1, 2, []int{1}}, {"\xff\x00", "\x00", 0, 1, []int{1}},
		{"aaaa", "aa", 1, 4, []int{0, 1, 2}}, {"aaaa", "aaaa", 3, 4, []int{0}}, {"aaaa", "aaaaa", 4, 4, nil},
		{"ababab", "abab", 1, 3, []int{0, 2}}, {"abcaba", "a", 0, 3, []int{0, 3, 5}},
		{"banana", "banana", 3, 4, []int{0}}, {"banana", "anan", 2, 3, []int{1}}, {"banana", "anas", 3, 3, nil},
	} {
		x := index(t, []byte(c.d))
		if lo, hi := rangeIn(t, x, []byte(c.p)); lo != c.lo || hi != c.hi {
			t.Errorf("of %q: Range(%q) = %d, %d", c.d, c.p, lo, hi)
		}
		if l := all(t, x, []byte(c.p)); !slices.Equal(l, c.all) {
			t.Errorf("of %q: All(%q) = %v", c.d, c.p, l)
		}
	}
}

// P14.6: just the suffixes of these ranks begin with p; with a byte behind it the ranges lie within, and apart, and are all of it but where the data ends with p.
func TestRangesOfLongerTexts(t *testing.T) {
	data := slices.Concat(words(), short(5, 2), short(3, 3))
	for n := 3; n < 12; n++ {
		for _, s := range shapes(n) {
			data = append(data, s.data)
		}
	}
	for _, d := range data {
		x := index(t, d)
		holdLonger(t, x, d, nil)
		for at := range d {
			for end := at + 1; end <= min(at+4, len(d)); end++ {
				holdLonger(t, x, d, d[at:end])
			}
		}
		holdLonger(t, x, d, d)
		holdLonger(t, x, d, slices.Concat(d, []byte("x")))
	}
}

// holdLonger: P14.6 of one text.
func holdLonger(t *testing.T, x *suffix.Index, d, p []byte) {
	t.Helper()
	lo, hi := rangeIn(t, x, p)
	for rank, at := range x.Array() {
		if (lo <= rank && rank < hi) != stands(d, p, at) {
			t.Fatalf("of %q: Range(%q) = %d, %d; the suffix of rank %d", d, p, lo, hi, rank)
		}
	}
	last, total := lo, 0
	for v := range 256 {
		a, b := rangeIn(t, x, slices.Concat(p, []byte{byte(v)}))
		if a < last || b < a || b > hi {
			t.Fatalf("of %q: Range(%q and %d) = %d, %d", d, p, v, a, b)
		}
		last, total = b, total+b-a
	}
	if len(p) > 0 && stands(d, p, len(d)-len(p)) {
		total++
	}
	if n := count(t, x, p); n != total {
		t.Fatalf("of %q: Count(%q) = %d, not %d", d, p, n, total)
	}
}

// P14.3, P14.7: the most first bytes of p that stand anywhere, and the least place where they do.
func TestLongest(t *testing.T) {
	for _, c := range pairs() {
		x := index(t, c.d)
		at, m := longest(t, x, c.p)
		if wantAt, want := longestOf(c.d, c.p); at != wantAt || m != want {
			t.Fatalf("of %q: Longest(%q) = %d, %d, not %d, %d", c.d, c.p, at, m, wantAt, want)
		}
		if !stands(c.d, c.p[:m], at) || m < len(c.p) && anywhere(c.d, c.p[:m+1]) {
			t.Fatalf("of %q: Longest(%q) = %d, %d", c.d, c.p, at, m)
		}
	}
}

// P14.3: the edges, written out: the least place is not that of the first rank, nor of the last one.
func TestLongestEdges(t *testing.T) {
	for _, c := range []struct {
		d, p  string
		at, m int
	}{
		{"", "", 0, 0}, {"", "a", 0, 0}, {"a", "", 0, 0}, {"a", "a", 0, 1}, {"a", "aa", 0, 1}, {"ba", "a", 1, 1}, {"ba", "x", 0, 0},
		{"xab-aba", "ab", 1, 2},            // the ranks: 4, 1
		{"xab-abz-aba", "abq", 1, 2},       // the ranks: 1, 8, 4
		{"xabc-abd-aba", "ab", 1, 2},       // the ranks: 9, 1, 5
		{"xabd-aba-abc", "abb", 1, 2},      // the ranks: 5, 9, 1
		{"zaaaa", "aaa", 1, 3},             // overlapping
		{"zaaaa", "aaaaaa", 1, 4},          // it goes on behind the data's end
		{"zababab", "ababx", 1, 4},         //
		{"banana", "bananas", 0, 6},        // the data, and more
		{"banana", "xbanana", 0, 0},        // its first byte stands nowhere
		{"banana", "anx", 1, 2},            // its first bytes alone
		{"\xff\x00\xff", "\xff", 0, 1},     //
		{"\x00\xff\x00", "\x00\x00", 0, 1}, //
	} {
		if at, m := longest(t, index(t, []byte(c.d)), []byte(c.p)); at != c.at || m != c.m {
			t.Errorf("of %q: Longest(%q) = %d, %d, not %d, %d", c.d, c.p, at, m, c.at, c.m)
		}
	}
}

// P14.3: the least place of many ranks, wherever in the data they stand: at its front, in the middle, at its end, far apart.
func TestLongestOfManyPlaces(t *testing.T) {
	r := rolls(3)
	for range 300 {
		d := r.data(200+r.below(200), 200)
		for range 1 + r.below(60) {
			at := r.below(1 + r.below(len(d)))
			d[len(d)-1-at] = 'q'
		}
		x := index(t, d)
		for _, p := range [][]byte{[]byte("q"), []byte("qq"), {'q', letter(0, 200)}, {'q', letter(199, 200)}} {
			at, m := longest(t, x, p)
			if wantAt, want := longestOf(d, p); at != wantAt || m != want {
				t.Fatalf("of %q: Longest(%q) = %d, %d, not %d, %d", d, p, at, m, wantAt, want)
			}
		}
	}
}

// P14.4, P14.7: of each place the most bytes that stand anywhere; each number is at least the one ahead less 1.
func TestStatistics(t *testing.T) {
	for _, c := range pairs() {
		l := statistics(t, index(t, c.d), c.p)
		if want := statisticsOf(c.d, c.p); !slices.Equal(l, want) {
			t.Fatalf("of %q: Statistics(%q) = %v, not %v", c.d, c.p, l, want)
		}
		for i := 1; i < len(l); i++ {
			if l[i] < l[i-1]-1 {
				t.Fatalf("of %q: Statistics(%q) = %v", c.d, c.p, l)
			}
		}
	}
}

// P14.4: the edges, written out: the next number is just one less, and it is more; bytes that stand nowhere.
func TestStatisticsEdges(t *testing.T) {
	for _, c := range []struct {
		d, p string
		want []int
	}{
		{"", "", nil}, {"", "ab", []int{0, 0}}, {"a", "", nil}, {"a", "a", []int{1}}, {"a", "aa", []int{1, 1}}, {"a", "ba", []int{0, 1}},
		{"banana", "banana", []int{6, 5, 4, 3, 2, 1}},
		{"abc-bcde", "abcde", []int{3, 4, 3, 2, 1}}, // one less would be 2
		{"ab-bc-cdef", "abcdefx", []int{2, 2, 4, 3, 2, 1, 0}},
		{"aaa", "aaaaa", []int{3, 3, 3, 2, 1}},
		{"abab", "xabxbab", []int{0, 2, 1, 0, 3, 2, 1}},
		{"\x00\xff", "\xff\x00\xff\x00", []int{1, 2, 1, 1}},
	} {
		if l := statistics(t, index(t, []byte(c.d)), []byte(c.p)); !slices.Equal(l, c.want) {
			t.Errorf("of %q: Statistics(%q) = %v, not %v", c.d, c.p, l, c.want)
		}
	}
}

// P14.5: how many unlike texts there are; P14.8: by what neighbours have in common.
func TestDistinct(t *testing.T) {
	data := slices.Concat(words(), short(8, 2), short(5, 3))
	for n := range 30 {
		for _, s := range shapes(n) {
			data = append(data, s.data)
		}
	}
	for _, c := range drawn(50, 60) {
		data = append(data, c.d)
	}
	for _, d := range data {
		x := index(t, d)
		n := distinct(t, x)
		if want := distinctOf(d); n != want {
			t.Fatalf("Distinct of %q = %d, not %d", d, n, want)
		}
		want := len(d) * (len(d) + 1) / 2
		for _, m := range x.Lcp() {
			want -= m
		}
		if n != want {
			t.Fatalf("Distinct of %q = %d, by Lcp %d", d, n, want)
		}
	}
}

// P14.5: the edges: alike, rising and falling, two bytes.
func TestDistinctEdges(t *testing.T) {
	for d, want := range map[string]int{"": 0, "a": 1, "\x00": 1, "aa": 2, "ab": 3, "\xff\x00": 3, "aaaaa": 5, "abcde": 15, "edcba": 15, "ababab": 11} {
		if n := distinct(t, index(t, []byte(d))); n != want {
			t.Errorf("Distinct of %q = %d, not %d", d, n, want)
		}
	}
}
