package suffix_test

import (
	"slices"
	"testing"

	"sapper/api"
	"sapper/suffix"
)

// holdShared: Shared against the answer by definition; P13.14: of the two turned about as many.
func holdShared(t *testing.T, a, b []byte) {
	t.Helper()
	inA, inB, n, err := suffix.Shared(a, b)
	if wantA, wantB, want := sharedOf(a, b); inA != wantA || inB != wantB || n != want || err != api.OK {
		t.Fatalf("Shared(%q, %q) = %d, %d, %d, %v, not %d, %d, %d", a, b, inA, inB, n, err, wantA, wantB, want)
	}
	backB, backA, m, err := suffix.Shared(b, a)
	if backA != inA || backB != inB || m != n || err != api.OK {
		t.Fatalf("Shared(%q, %q) = %d, %d, %d, %v", b, a, backB, backA, m, err)
	}
}

// P13.12: the chapter's example 7.
func TestSharedExamples(t *testing.T) {
	if i, k, n, err := suffix.Shared([]byte("banana"), []byte("nab")); i != 2 || k != 0 || n != 2 || err != api.OK {
		t.Error("banana, nab:", i, k, n, err)
	}
	if i, k, n, err := suffix.Shared([]byte("ab"), []byte("c")); i != 0 || k != 0 || n != 0 || err != api.OK {
		t.Error("ab, c:", i, k, n, err)
	}
}

// P13.12: one within the other; several as long; at several places of both; nothing in common.
func TestSharedEdges(t *testing.T) {
	for _, c := range []struct {
		a, b      string
		at, bt, n int
	}{
		{"", "", 0, 0, 0}, {"", "a", 0, 0, 0}, {"a", "", 0, 0, 0}, {"a", "b", 0, 0, 0}, {"\x00", "\xff", 0, 0, 0},
		{"a", "a", 0, 0, 1}, {"\x00", "\x00", 0, 0, 1}, {"\xff", "\xff", 0, 0, 1},
		{"banana", "banana", 0, 0, 6},
		{"banana", "xxbananaxx", 0, 2, 6}, {"xxbananaxx", "banana", 2, 0, 6}, // one within the other
		{"ana", "banana", 0, 1, 3}, {"banana", "ana", 1, 0, 3}, // at several places of the other
		{"zzzyyy-aab", "aab.yyy.zzz", 7, 0, 3}, // as long: aab, yyy and zzz
		{"zy1xw", "xw2zy", 3, 0, 2},            // as long: xw is less
		{"zy1xw", "zy2xw", 3, 3, 2},            // the least, not the first
		{"1ab2ab3ab", "-ab+ab", 1, 1, 2},       // at several places of both
		{"3ab2ab1ab", ".ab/ab", 1, 1, 2},       // the ranks fall
		{"aaaa", "aa", 0, 0, 2}, {"aa", "aaaa", 0, 0, 2},
		{"aaab", "baaa", 0, 1, 3},
		{"abcx", "yabc", 0, 1, 3}, // at one's beginning, at the other's end
		{"xabc", "abcy", 1, 0, 3},
	} {
		i, k, n, err := suffix.Shared([]byte(c.a), []byte(c.b))
		if i != c.at || k != c.bt || n != c.n || err != api.OK {
			t.Errorf("Shared(%q, %q) = %d, %d, %d, %v", c.a, c.b, i, k, n, err)
		}
		holdShared(t, []byte(c.a), []byte(c.b))
	}
}

// P13.12, P13.14: all short pairs.
func TestSharedOfAll(t *testing.T) {
	for _, all := range [][][]byte{short(6, 2), short(4, 3)} {
		for _, a := range all {
			for _, b := range all {
				holdShared(t, a, b)
			}
		}
	}
}

// P13.12, P13.14: drawn pairs, some with a part in common, some of other letters.
func TestSharedOfDrawn(t *testing.T) {
	r := rolls(14)
	for range 600 {
		k := 1 + r.below(5)
		a, b := r.data(r.below(40), k), r.copied(r.below(40), k)
		holdShared(t, a, b)
		if len(a) > 0 {
			from := r.below(len(a))
			part := a[from : from+r.below(len(a)-from)+1]
			at := r.below(len(b) + 1)
			holdShared(t, a, slices.Insert(slices.Clone(b), at, part...))
		}
		holdShared(t, a, r.data(r.below(30), 256))
	}
	for n := range 15 {
		for _, s := range shapes(n) {
			for _, o := range shapes(n/2 + 3) {
				holdShared(t, s.data, o.data)
			}
		}
	}
}
