package suffix_test

import (
	"bytes"
	"math"
	"slices"
	"testing"

	"sapper/api"
	"sapper/suffix"
)

// repeats: the answer of a least that may be.
func repeats(t *testing.T, x *suffix.Index, least int) []suffix.Again {
	t.Helper()
	l, err := x.Repeats(least)
	if err != api.OK {
		t.Fatalf("Repeats(%d) of %d bytes: %v", least, x.Len(), err)
	}
	return l
}

// P13.5, P13.15, P13.16: the chapter's examples, 1, 5 and 8.
func TestTextsExamples(t *testing.T) {
	x := index(t, []byte("banana"))
	if i, n := x.Repeat(); i != 1 || n != 3 {
		t.Error("Repeat:", i, n)
	}
	for k, want := range map[int]string{0: "a", 1: "an", 14: "nana"} {
		if b, err := x.Kth(k); string(b) != want || err != api.OK {
			t.Errorf("Kth(%d) = %q, %v", k, b, err)
		}
	}
	if b, err := x.Kth(15); len(b) != 0 || err != api.ErrSuffixPlace {
		t.Errorf("Kth(15) = %q, %v", b, err)
	}
	if l := repeats(t, x, 1); !slices.Equal(l, []suffix.Again{{At: 1, Len: 1, Count: 3}, {At: 1, Len: 3, Count: 2}}) {
		t.Error("Repeats(1):", l)
	}
}

// P13.5: the longest repeat by definition.
func TestRepeat(t *testing.T) {
	for _, d := range samples() {
		x := index(t, d)
		i, n := x.Repeat()
		if wantAt, want := repeatOf(d); i != wantAt || n != want {
			t.Fatalf("Repeat of %q = %d, %d, not %d, %d", d, i, n, wantAt, want)
		}
	}
}

// P13.5: places that overlap; several as long; the least place where it is not the first in order; none.
func TestRepeatEdges(t *testing.T) {
	for _, c := range []struct {
		d     string
		at, n int
	}{
		{"", 0, 0}, {"a", 0, 0}, {"ab", 0, 0}, {"abcdef", 0, 0}, {"fedcba", 0, 0},
		{"aa", 0, 1}, {"\x00\x00", 0, 1}, {"\xff\xff", 0, 1},
		{"aaaa", 0, 3}, {"ababab", 0, 4}, {"xababab", 1, 4}, {"abcabcabc", 0, 6},
		{"bb-aa", 3, 1},            // several as long: the least in order
		{"zyzyabab", 4, 2},         // zy, yz and ab
		{"-ab1ab0ab", 1, 2},        // at three places, of which the first is not the one of the least rank
		{"xab0xab1yab2", 0, 3},     // xab, and ab once more
		{"\xff\x00\xff\x00", 0, 2}, // ff 00
		{"aXbXc", 1, 1},
	} {
		if i, n := index(t, []byte(c.d)).Repeat(); i != c.at || n != c.n {
			t.Errorf("Repeat of %q = %d, %d, not %d, %d", c.d, i, n, c.at, c.n)
		}
	}
}

// P13.15: each of the unlike texts, and one beyond.
func TestKth(t *testing.T) {
	for _, d := range samples() {
		x := index(t, d)
		kinds := kindsOf(d)
		for k, want := range kinds {
			if b, err := x.Kth(k); string(b) != want || err != api.OK {
				t.Fatalf("Kth(%d) of %q = %q, %v, not %q", k, d, b, err, want)
			}
		}
		for _, k := range []int{len(kinds), len(kinds) + 1, math.MaxInt, -1, -len(kinds), math.MinInt} {
			if b, err := x.Kth(k); len(b) != 0 || err != api.ErrSuffixPlace {
				t.Fatalf("Kth(%d) of %q = %q, %v", k, d, b, err)
			}
		}
	}
}

// P13.15: of long data: the first, the last, one beyond; there are more unlike texts than 2^32.
func TestKthOfMany(t *testing.T) {
	d := counted(1<<17, func(i int) int { return i / 512 }) // rising, each byte 512 times
	x := index(t, d)
	many := 0
	for r, n := range x.Lcp() {
		many += x.Len() - at(t, x, r) - n
	}
	if many < 1<<32 {
		t.Fatal("the test is wrong:", many)
	}
	if b, err := x.Kth(0); !bytes.Equal(b, []byte{0}) || err != api.OK {
		t.Error("Kth(0):", b, err)
	}
	// The least suffix is the whole data, so that all that it begins with comes ahead of it, and nothing else.
	if b, err := x.Kth(len(d) - 1); !bytes.Equal(b, d) || err != api.OK {
		t.Error("Kth of the whole data:", len(b), err)
	}
	if b, err := x.Kth(many - 1); !bytes.Equal(b, d[len(d)-512:]) || err != api.OK {
		t.Error("the last one:", len(b), err)
	}
	if b, err := x.Kth(many); len(b) != 0 || err != api.ErrSuffixPlace {
		t.Error("one beyond:", len(b), err)
	}
}

// P13.16: the repeats by definition, of each least.
func TestRepeats(t *testing.T) {
	for _, d := range samples() {
		x := index(t, d)
		all := repeatsOf(d, 1)
		longest := 0
		for _, a := range all {
			longest = max(longest, a.Len)
		}
		for _, least := range []int{1, 2, 3, longest, longest + 1, len(d) + 1, math.MaxInt} {
			if least < 1 {
				continue
			}
			want := slices.DeleteFunc(slices.Clone(all), func(a suffix.Again) bool { return a.Len < least })
			if got := repeats(t, x, least); !slices.Equal(got, want) {
				t.Fatalf("Repeats(%d) of %q = %v, not %v", least, d, got, want)
			}
		}
		if _, n := x.Repeat(); n != longest {
			t.Fatalf("of %q: the longest of Repeats is %d, that of Repeat %d", d, longest, n)
		}
	}
}

// P13.16: texts that can go on at the front alone, at the end alone, at both, at neither; overlapping; in their order.
func TestRepeatsEdges(t *testing.T) {
	for _, c := range []struct {
		d     string
		least int
		want  []suffix.Again
	}{
		{"", 1, nil}, {"a", 1, nil}, {"ab", 1, nil}, {"abcdef", 1, nil},
		{"aa", 1, []suffix.Again{{At: 0, Len: 1, Count: 2}}},
		{"aaaa", 1, []suffix.Again{{At: 0, Len: 1, Count: 4}, {At: 0, Len: 2, Count: 3}, {At: 0, Len: 3, Count: 2}}},
		{"1ab2ab3", 1, []suffix.Again{{At: 1, Len: 2, Count: 2}}},   // a goes on at the end, b at the front
		{"1abc2abc3", 1, []suffix.Again{{At: 1, Len: 3, Count: 2}}}, // b goes on at both
		{"ab1ab", 1, []suffix.Again{{At: 0, Len: 2, Count: 2}}},     // at the beginning, and at the end
		{"ab1ab2b", 1, []suffix.Again{{At: 0, Len: 2, Count: 2}, {At: 1, Len: 1, Count: 3}}},
		{"xa1xa2ya", 1, []suffix.Again{{At: 1, Len: 1, Count: 3}, {At: 0, Len: 2, Count: 2}}},
		{"xaxa", 1, []suffix.Again{{At: 0, Len: 2, Count: 2}}}, // the first one at the beginning: nothing ahead of it
		{"xaxaxa", 1, []suffix.Again{{At: 0, Len: 2, Count: 3}, {At: 0, Len: 4, Count: 2}}},
		{"xaxaxa", 2, []suffix.Again{{At: 0, Len: 2, Count: 3}, {At: 0, Len: 4, Count: 2}}},
		{"xaxaxa", 3, []suffix.Again{{At: 0, Len: 4, Count: 2}}},
		{"xaxaxa", 4, []suffix.Again{{At: 0, Len: 4, Count: 2}}},
		{"xaxaxa", 5, nil},
		{"\xff\x00\xff", 1, []suffix.Again{{At: 0, Len: 1, Count: 2}}},
		{"\x00\xff\x00", 1, []suffix.Again{{At: 0, Len: 1, Count: 2}}},
	} {
		if got := repeats(t, index(t, []byte(c.d)), c.least); !slices.Equal(got, c.want) {
			t.Errorf("Repeats(%d) of %q = %v, not %v", c.least, c.d, got, c.want)
		}
	}
}

// P13.16: a least that may not be.
func TestRepeatsWrongLeast(t *testing.T) {
	for _, d := range [][]byte{nil, []byte("a"), []byte("banana")} {
		x := index(t, d)
		for _, least := range []int{0, -1, math.MinInt} {
			if l, err := x.Repeats(least); len(l) != 0 || err != api.ErrArg {
				t.Errorf("Repeats(%d) of %q = %v, %v", least, d, l, err)
			}
		}
	}
}
