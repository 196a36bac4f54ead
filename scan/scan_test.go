package scan_test

import (
	"slices"
	"testing"

	"sapper/scan"
)

// The chapter's examples 1 to 3.
func TestExamples(t *testing.T) {
	for _, c := range []struct {
		old       string
		pos       int
		next      string
		from, to  int
		there     int
		backwards bool
	}{
		{"abcdef", 0, "abxdyy", 0, 6, 2, false},
		{"abc", 3, "abc", 0, 3, 0, false},
		{"abc", 4, "abc", 0, 3, 0, false},
		{"xxabc", 5, "yyabc", 0, 5, 3, true},
		{"abc", 1, "abc", 0, 3, 0, true},
	} {
		call := scan.Forward
		if c.backwards {
			call = scan.Backward
		}
		if n := call([]byte(c.old), c.pos, []byte(c.next), c.from, c.to); n != c.there {
			t.Errorf("%+v: %d", c, n)
		}
	}
	if k := scan.Split([]byte("aabb"), 0, 2, []byte("aabb"), 0, 2); k != 2 {
		t.Error("Split of aabb:", k)
	}
	if k := scan.Split([]byte("abab"), 0, 2, []byte("ab"), 0, 2); k != 0 {
		t.Error("Split of abab:", k)
	}
}

// P15.1: the edges, written out.
func TestForwardEdges(t *testing.T) {
	for _, c := range []struct {
		name     string
		old      string
		pos      int
		next     string
		from, to int
		want     int
	}{
		{"pos at 0", "abcdef", 0, "abcdef", 0, 6, 6},
		{"pos within", "xxabcdef", 2, "abcdef", 0, 6, 6},
		{"pos at the last", "abcdef", 5, "f", 0, 1, 1},
		{"pos at the end", "abcdef", 6, "f", 0, 1, 0},
		{"pos one beyond", "abcdef", 7, "f", 0, 1, 0},
		{"pos below 0", "abcdef", -1, "abcdef", 0, 6, 0},
		{"no old", "", 0, "abc", 0, 3, 0},
		{"no next", "abc", 0, "", 0, 0, 0},
		{"neither", "", 0, "", 0, 0, 0},
		{"from within", "abcdef", 0, "xxabcdef", 2, 8, 6},
		{"from below 0", "abcdef", 0, "abcdef", -1, 6, 0},
		{"from at the end", "abcdef", 0, "abcdef", 6, 6, 0},
		{"from beyond", "abcdef", 0, "abcdef", 7, 7, 0},
		{"from is to", "abcdef", 3, "abcdef", 3, 3, 0},
		{"from above to", "abcdef", 3, "abcdef", 3, 2, 0},
		{"to is next", "abcdef", 2, "abcdef", 2, 3, 1},
		{"to beyond", "abcdef", 0, "abcdef", 0, 7, 0},
		{"to below 0", "abcdef", 0, "abcdef", 0, -1, 0},
		{"both below 0", "abcdef", 0, "abcdef", -2, -1, 0},
		{"old ends ahead of to", "abc", 1, "bcdef", 0, 5, 2},
		{"next goes on behind to", "abcdef", 0, "abcdef", 0, 4, 4},
		{"several are as good: 1, 3", "a-c-", 0, "abcd", 0, 4, 1},
		{"several are as good: 2, 4", "abcdef", 0, "abxdyy", 0, 6, 2},
		{"the last is better", "ab-def", 0, "abcdef", 0, 6, 6},
		{"unlike at first, then as good as none", "-b", 0, "ab", 0, 2, 0},
		{"unlike at first, then better", "-bc", 0, "abc", 0, 3, 3},
		{"a gap that does not pay", "ab---f", 0, "abcdef", 0, 6, 2},
		{"a gap that pays", "ab---fghij", 0, "abcdefghij", 0, 10, 10},
		{"none pays", "------", 0, "abcdef", 0, 6, 0},
		{"half of them, none pays", "-b-d-f", 0, "abcdef", 0, 6, 0},
		{"bytes without a sign", "\x80\xff\x00", 0, "\x80\xff\x00", 0, 3, 3},
		{"bytes that differ in the top bit", "\x80\x01", 0, "\x00\x81", 0, 2, 0},
	} {
		if n := scan.Forward([]byte(c.old), c.pos, []byte(c.next), c.from, c.to); n != c.want {
			t.Errorf("%s: Forward(%q, %d, %q, %d, %d) = %d, not %d", c.name, c.old, c.pos, c.next, c.from, c.to, n, c.want)
		}
	}
}

// P15.2: the edges, written out.
func TestBackwardEdges(t *testing.T) {
	for _, c := range []struct {
		name     string
		old      string
		pos      int
		next     string
		from, to int
		want     int
	}{
		{"pos at the end", "abcdef", 6, "abcdef", 0, 6, 6},
		{"pos within", "abcdefxx", 6, "abcdef", 0, 6, 6},
		{"pos at 1", "abcdef", 1, "a", 0, 1, 1},
		{"pos at 0", "abcdef", 0, "a", 0, 1, 0},
		{"pos one beyond", "abcdef", 7, "abcdef", 0, 6, 0},
		{"pos below 0", "abcdef", -1, "abcdef", 0, 6, 0},
		{"no old", "", 0, "abc", 0, 3, 0},
		{"no next", "abc", 3, "", 0, 0, 0},
		{"neither", "", 0, "", 0, 0, 0},
		{"to within", "abcdef", 6, "abcdefxx", 0, 6, 6},
		{"from within", "abcdef", 6, "abcdef", 4, 6, 2},
		{"from below 0", "abcdef", 6, "abcdef", -1, 6, 0},
		{"from is to", "abcdef", 3, "abcdef", 3, 3, 0},
		{"from above to", "abcdef", 3, "abcdef", 4, 3, 0},
		{"from beyond", "abcdef", 6, "abcdef", 7, 7, 0},
		{"to beyond", "abcdef", 6, "abcdef", 0, 7, 0},
		{"to below 0", "abcdef", 6, "abcdef", 0, -1, 0},
		{"both below 0", "abcdef", 6, "abcdef", -2, -1, 0},
		{"pos less than to less from", "def", 3, "abcdef", 0, 6, 3},
		{"pos less, and not at the end", "defabc", 3, "abcdef", 0, 6, 3},
		{"several are as good: 1, 3", "-b-d", 4, "abcd", 0, 4, 1},
		{"several are as good: 2, 4", "--c-ef", 6, "abcdef", 0, 6, 2},
		{"the last is better", "abc-ef", 6, "abcdef", 0, 6, 6},
		{"unlike at first, then as good as none", "a-", 2, "ab", 0, 2, 0},
		{"unlike at first, then better", "ab-", 3, "abc", 0, 3, 3},
		{"a gap that does not pay", "a---ef", 6, "abcdef", 0, 6, 2},
		{"a gap that pays", "abcde---ij", 10, "abcdefghij", 0, 10, 10},
		{"none pays", "------", 6, "abcdef", 0, 6, 0},
		{"half of them, none pays", "a-c-e-", 6, "abcdef", 0, 6, 0},
		{"bytes without a sign", "\x80\xff\x00", 3, "\x80\xff\x00", 0, 3, 3},
	} {
		if n := scan.Backward([]byte(c.old), c.pos, []byte(c.next), c.from, c.to); n != c.want {
			t.Errorf("%s: Backward(%q, %d, %q, %d, %d) = %d, not %d", c.name, c.old, c.pos, c.next, c.from, c.to, n, c.want)
		}
	}
}

// P15.3: the edges, written out.
func TestSplitEdges(t *testing.T) {
	for _, c := range []struct {
		name      string
		old       string
		pos, back int
		next      string
		at, n     int
		want      int
	}{
		{"the first has all", "abcd----", 0, 4, "abcd", 0, 4, 4},
		{"the second has all", "----abcd", 0, 4, "abcd", 0, 4, 0},
		{"parted in the middle", "ab----cd", 0, 4, "abcd", 0, 4, 2},
		{"the other way round: as good at the end as at first", "--cdab--", 0, 4, "abcd", 0, 4, 0},
		{"the last one alone is best", "abcdabc-", 0, 4, "abcd", 0, 4, 4},
		{"the first one alone is best", "abcd-bcd", 0, 4, "abcd", 0, 4, 1},
		{"all are as good: both have all", "abcdabcd", 0, 4, "abcd", 0, 4, 0},
		{"all are as good: neither has any", "--------", 0, 4, "abcd", 0, 4, 0},
		{"several are as good: 1 to 3", "a--------d", 0, 6, "abcd", 0, 4, 1},
		{"several are as good: 1, 3", "a-c--b--", 0, 4, "abcd", 0, 4, 1},
		{"better after a loss", "--cda---", 0, 4, "abcd", 0, 4, 4},
		{"the same place", "abcd", 0, 0, "abcd", 0, 4, 0},
		{"they overlap", "aab", 0, 1, "aa", 0, 2, 2},
		{"at within", "ab----cd", 0, 4, "xxabcd", 2, 4, 2},
		{"n less than there are", "ab----cd", 0, 4, "abcd", 0, 3, 2},
		{"n is 0", "abcd----", 0, 4, "abcd", 0, 0, 0},
		{"n is 0, all at the end", "abcd", 4, 4, "abcd", 4, 0, 0},
		{"n below 0", "abcd----", 0, 4, "abcd", 0, -1, 0},
		{"n below 0, all at the end", "abcd----", 8, 8, "abcd", 4, -1, 0},
		{"of all bytes", "aaaa", 0, 0, "aaaa", 0, 4, 0},
		{"one byte more than from pos", "----abcd", 5, 0, "bcde", 0, 4, 0},
		{"just as many as from pos", "----abcd", 4, 0, "abcd", 0, 4, 4},
		{"one byte more than from back", "abcd----", 0, 5, "abcd", 0, 4, 0},
		{"one byte more than from at", "abcd----", 0, 4, "xabc", 1, 4, 0},
		{"one byte more than next", "abcd----", 0, 3, "abc", 0, 4, 0},
		{"more than all", "abcd", 0, 0, "abcd", 0, 5, 0},
		{"pos below 0", "abcd----", -1, 4, "abcd", 0, 4, 0},
		{"back below 0", "abcd----", 0, -1, "abcd", 0, 4, 0},
		{"at below 0", "abcd----", 0, 4, "abcd", -1, 4, 0},
		{"no old", "", 0, 0, "abcd", 0, 1, 0},
		{"no next", "abcd", 0, 0, "", 0, 1, 0},
		{"neither", "", 0, 0, "", 0, 0, 0},
	} {
		if k := scan.Split([]byte(c.old), c.pos, c.back, []byte(c.next), c.at, c.n); k != c.want {
			t.Errorf("%s: Split(%q, %d, %d, %q, %d, %d) = %d, not %d", c.name, c.old, c.pos, c.back, c.next, c.at, c.n, k, c.want)
		}
	}
}

// holdPays: Forward and Backward against the chapter's words, and P15.7.
func holdPays(t *testing.T, old []byte, pos int, next []byte, from, to int) {
	t.Helper()
	f, b := scan.Forward(old, pos, next, from, to), scan.Backward(old, pos, next, from, to)
	if want := forwardOf(old, pos, next, from, to); f != want || f > 0 && paysOf(old, pos, next, from, f) < 0 {
		t.Fatalf("Forward(%q, %d, %q, %d, %d) = %d, not %d", old, pos, next, from, to, f, want)
	}
	if want := backwardOf(old, pos, next, from, to); b != want || b > 0 && paysOf(old, pos-b, next, to-b, b) < 0 {
		t.Fatalf("Backward(%q, %d, %q, %d, %d) = %d, not %d", old, pos, next, from, to, b, want)
	}
}

// holdSplit: Split against the chapter's words.
func holdSplit(t *testing.T, old []byte, pos, back int, next []byte, at, n int) {
	t.Helper()
	if k, want := scan.Split(old, pos, back, next, at, n), splitOf(old, pos, back, next, at, n); k != want {
		t.Fatalf("Split(%q, %d, %d, %q, %d, %d) = %d, not %d", old, pos, back, next, at, n, k, want)
	}
}

// around: the numbers from -1 to one more than n.
func around(n int) []int {
	var out []int
	for i := range n + 3 {
		out = append(out, i-1)
	}
	return out
}

// P15.1, P15.2, P15.7: of all short images, and all places in and around them.
func TestPaysOfAll(t *testing.T) {
	for _, c := range slices.Concat(cross(short(4, 2), short(4, 2)), cross(short(3, 3), short(3, 3))) {
		for _, pos := range around(len(c.old)) {
			for _, from := range around(len(c.next)) {
				for _, to := range around(len(c.next)) {
					holdPays(t, c.old, pos, c.next, from, to)
				}
			}
		}
	}
}

// P15.3: of all short images, and all places and numbers in and around them.
func TestSplitOfAll(t *testing.T) {
	for _, c := range slices.Concat(cross(short(4, 2), short(3, 2)), cross(short(3, 3), short(2, 3))) {
		for _, pos := range around(len(c.old)) {
			for _, back := range around(len(c.old)) {
				for _, at := range around(len(c.next)) {
					for _, n := range around(min(len(c.old), len(c.next))) {
						holdSplit(t, c.old, pos, back, c.next, at, n)
					}
				}
			}
		}
	}
}

// P15.1 to P15.3, P15.7: of drawn images that share long parts, at drawn places.
func TestPaysOfDrawn(t *testing.T) {
	r := rolls(3)
	for _, c := range drawn(400) {
		for range 3 {
			pos, from := r.below(len(c.old)+1), r.below(len(c.next)+1)
			holdPays(t, c.old, pos, c.next, from, from+r.below(len(c.next)-from+1))
			holdPays(t, c.old, pos, c.next, 0, len(c.next))
			n := r.below(min(len(c.old), len(c.next)) + 1)
			holdSplit(t, c.old, r.below(len(c.old)-n+1), r.below(len(c.old)-n+1), c.next, r.below(len(c.next)-n+1), n)
		}
	}
}
