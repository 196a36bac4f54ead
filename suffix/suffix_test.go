package suffix_test

import (
	"bytes"
	"math"
	"slices"
	"testing"

	"sapper/api"
	"sapper/suffix"
)

// index: of data that may be.
func index(t *testing.T, d []byte) *suffix.Index {
	t.Helper()
	x, err := suffix.New(d)
	if err != api.OK || x == nil {
		t.Fatalf("New(of %d bytes): %v", len(d), err)
	}
	return x
}

// indexes: one that New made, and one that Load made.
func indexes(t *testing.T, d []byte) []*suffix.Index {
	t.Helper()
	x := index(t, d)
	y, err := suffix.Load(d, arrayOf(d))
	if err != api.OK || y == nil {
		t.Fatalf("Load(%q): %v", d, err)
	}
	return []*suffix.Index{x, y}
}

// at, rank, common: the answers of places and ranks that there are.
func at(t *testing.T, x *suffix.Index, rank int) int {
	t.Helper()
	i, err := x.At(rank)
	if err != api.OK {
		t.Fatalf("At(%d) of %d bytes: %v", rank, x.Len(), err)
	}
	return i
}

func rank(t *testing.T, x *suffix.Index, at int) int {
	t.Helper()
	r, err := x.Rank(at)
	if err != api.OK {
		t.Fatalf("Rank(%d) of %d bytes: %v", at, x.Len(), err)
	}
	return r
}

func common(t *testing.T, x *suffix.Index, i, k int) int {
	t.Helper()
	n, err := x.Common(i, k)
	if err != api.OK {
		t.Fatalf("Common(%d, %d) of %d bytes: %v", i, k, x.Len(), err)
	}
	return n
}

// P13.1 to P13.4: the chapter's examples, 1 to 5.
func TestExamples(t *testing.T) {
	x := index(t, []byte("banana"))
	if got := x.Array(); !slices.Equal(got, []int{5, 3, 1, 0, 4, 2}) {
		t.Error("Array:", got)
	}
	if got := x.Lcp(); !slices.Equal(got, []int{0, 1, 3, 0, 0, 2}) {
		t.Error("Lcp:", got)
	}
	if x.Len() != 6 || string(x.Data()) != "banana" || rank(t, x, 0) != 3 || at(t, x, 2) != 1 {
		t.Error("Len, Data, Rank(0), At(2):", x.Len(), x.Data(), rank(t, x, 0), at(t, x, 2))
	}
	if common(t, x, 1, 3) != 3 || common(t, x, 0, 1) != 0 {
		t.Error("Common:", common(t, x, 1, 3), common(t, x, 0, 1))
	}
	for _, c := range []struct {
		at      int
		p       string
		want, n int
	}{{1, "an", 0, 2}, {1, "anb", -1, 2}, {0, "b", 0, 1}, {5, "ab", -1, 1}, {2, "", 0, 0}} {
		if got, n, err := x.Compare(c.at, []byte(c.p)); got != c.want || n != c.n || err != api.OK {
			t.Errorf("Compare(%d, %q) = %d, %d, %v", c.at, c.p, got, n, err)
		}
	}
	for _, c := range []struct {
		array []int
		rank  int
	}{{[]int{1, 0}, 0}, {[]int{0}, 1}, {[]int{0, 1, 2}, 2}} {
		if r, err := suffix.Check([]byte("ab"), c.array); r != c.rank || err != api.ErrSuffixArray {
			t.Errorf("Check(ab, %v) = %d, %v", c.array, r, err)
		}
	}
}

// P13.1, P13.2: bytes, array, places and ranks by definition.
func TestIndex(t *testing.T) {
	for _, d := range samples() {
		want := arrayOf(d)
		for _, x := range indexes(t, d) {
			if x.Len() != len(d) || !bytes.Equal(x.Data(), d) || !slices.Equal(x.Array(), want) {
				t.Fatalf("of %q: %d, %q, %v, not %v", d, x.Len(), x.Data(), x.Array(), want)
			}
			for r, i := range want {
				if at(t, x, r) != i || rank(t, x, i) != r {
					t.Fatalf("of %q: At(%d) = %d, Rank(%d) = %d", d, r, at(t, x, r), i, rank(t, x, i))
				}
			}
		}
	}
}

// P13.2: ranks and places that there are not.
func TestNoSuchPlace(t *testing.T) {
	for _, d := range [][]byte{nil, {}, {7}, []byte("ab"), []byte("banana"), make([]byte, 300)} {
		n := len(d)
		for _, x := range indexes(t, d) {
			for _, i := range []int{-1, n, n + 1, math.MinInt, math.MaxInt, -n - 1} {
				if got, err := x.At(i); got != 0 || err != api.ErrSuffixPlace {
					t.Errorf("At(%d) of %d bytes = %d, %v", i, n, got, err)
				}
				if got, err := x.Rank(i); got != 0 || err != api.ErrSuffixPlace {
					t.Errorf("Rank(%d) of %d bytes = %d, %v", i, n, got, err)
				}
				if c, m, err := x.Compare(i, nil); c != 0 || m != 0 || err != api.ErrSuffixPlace {
					t.Errorf("Compare(%d, none) of %d bytes = %d, %d, %v", i, n, c, m, err)
				}
				if c, m, err := x.Compare(i, []byte("b")); c != 0 || m != 0 || err != api.ErrSuffixPlace {
					t.Errorf("Compare(%d, b) of %d bytes = %d, %d, %v", i, n, c, m, err)
				}
				for _, k := range []int{0, n - 1, i} {
					holdNoCommon(t, x, i, k)
					holdNoCommon(t, x, k, i)
				}
			}
		}
	}
}

// holdNoCommon: one of these is no place.
func holdNoCommon(t *testing.T, x *suffix.Index, i, k int) {
	t.Helper()
	if n, err := x.Common(i, k); n != 0 || err != api.ErrSuffixPlace {
		t.Errorf("Common(%d, %d) of %d bytes = %d, %v", i, k, x.Len(), n, err)
	}
}

// P13.3: what neighbours, and any two, have in common.
func TestLcpAndCommon(t *testing.T) {
	for _, d := range samples() {
		x := index(t, d)
		if got, want := x.Lcp(), lcpOf(d); !slices.Equal(got, want) {
			t.Fatalf("Lcp of %q = %v, not %v", d, got, want)
		}
		for i := range d {
			for k := range d {
				if got, want := common(t, x, i, k), commonOf(d[i:], d[k:]); got != want {
					t.Fatalf("Common(%d, %d) of %q = %d, not %d", i, k, d, got, want)
				}
			}
		}
	}
}

// comparands: texts that are near to a suffix.
func comparands(s []byte) [][]byte {
	out := [][]byte{
		nil, {}, {0}, {255}, s,
		slices.Concat(s, []byte{0}), slices.Concat(s, []byte{255}), slices.Concat(s, s),
		slices.Concat([]byte{255}, s), slices.Concat([]byte{0}, s),
	}
	for n := range s {
		head := s[:n:n]
		out = append(out, head, append(head, s[n]+1), append(head, s[n]-1), append(head, 0), append(head, 255))
	}
	return out
}

// P13.4: a suffix and a text: with nothing, with what it begins with, itself, what goes on behind it, with lesser and greater bytes.
func TestCompare(t *testing.T) {
	for _, d := range samples() {
		x := index(t, d)
		for i := range d {
			for _, p := range comparands(d[i:]) {
				c, n := compareOf(d[i:], p)
				if got, m, err := x.Compare(i, p); got != c || m != n || err != api.OK {
					t.Fatalf("Compare(%d, %q) of %q = %d, %d, %v, not %d, %d", i, p, d, got, m, err, c, n)
				}
			}
		}
	}
}

// P13.4: bytes are held against each other without a sign; a text that is far longer than the data.
func TestCompareEnds(t *testing.T) {
	x := index(t, []byte{127, 128, 0, 255})
	for _, c := range []struct {
		at      int
		p       []byte
		want, n int
	}{
		{0, []byte{128}, -1, 0}, {1, []byte{127}, 1, 0}, {3, []byte{0}, 1, 0}, {2, []byte{255}, -1, 0},
		{0, []byte{127, 127, 255}, 1, 1}, {0, []byte{127, 129}, -1, 1},
		{3, bytes.Repeat([]byte{255}, 5000), -1, 1}, {3, []byte{255, 0}, -1, 1}, {2, []byte{0, 255, 0}, -1, 2},
	} {
		if got, n, err := x.Compare(c.at, c.p); got != c.want || n != c.n || err != api.OK {
			t.Errorf("Compare(%d, of %d bytes) = %d, %d, %v", c.at, len(c.p), got, n, err)
		}
	}
}

// P13.6: At and Rank undo each other; each suffix is greater than the one ahead. P13.8: without a first byte in common two stand as they did.
func TestOrder(t *testing.T) {
	for _, d := range samples() {
		x := index(t, d)
		for i := range d {
			if at(t, x, rank(t, x, i)) != i || rank(t, x, at(t, x, i)) != i {
				t.Fatalf("of %q: At and Rank of %d", d, i)
			}
		}
		for r := 1; r < len(d); r++ {
			if a, b := d[at(t, x, r-1):], d[at(t, x, r):]; bytes.Compare(a, b) >= 0 {
				t.Fatalf("of %q: %q ahead of %q", d, a, b)
			}
		}
		for i := range len(d) - 1 {
			for k := range len(d) - 1 {
				if d[i] == d[k] && (rank(t, x, i) < rank(t, x, k)) != (rank(t, x, i+1) < rank(t, x, k+1)) {
					t.Fatalf("of %q: the suffixes behind %d and %d", d, i, k)
				}
			}
		}
	}
}

// P13.7: what two have in common is the least of what those between them have.
func TestCommonIsLeastLcp(t *testing.T) {
	for _, d := range samples() {
		x := index(t, d)
		lcp := x.Lcp()
		for lo := range d {
			for hi := lo + 1; hi < len(d); hi++ {
				want := slices.Min(lcp[lo+1 : hi+1])
				i, k := at(t, x, lo), at(t, x, hi)
				if common(t, x, i, k) != want || common(t, x, k, i) != want {
					t.Fatalf("of %q: Common(%d, %d) = %d, not %d", d, i, k, common(t, x, i, k), want)
				}
			}
		}
	}
}

// P13.1, P13.9: Check and Load take just the array; of all lists of few numbers, at which rank they are first wrong.
func TestCheckOfAllLists(t *testing.T) {
	for _, d := range short(4, 2) {
		want := arrayOf(d)
		for _, list := range lists(len(d)+1, len(d)+1) {
			holdCheck(t, d, list, want)
		}
	}
}

// lists: all lists of at most n numbers from -1 to most.
func lists(n, most int) [][]int {
	out := [][]int{nil}
	for from := 0; n > 0; n-- {
		to := len(out)
		for _, l := range out[from:to] {
			for v := -1; v <= most; v++ {
				out = append(out, append(slices.Clone(l), v))
			}
		}
		from = to
	}
	return out
}

// holdCheck: Check and Load of a list, where the array is known.
func holdCheck(t *testing.T, d []byte, list, array []int) {
	t.Helper()
	wrong := 0
	for wrong < len(list) && wrong < len(array) && list[wrong] == array[wrong] {
		wrong++
	}
	want := api.ErrSuffixArray
	if slices.Equal(list, array) {
		wrong, want = 0, api.OK
	}
	if r, err := suffix.Check(d, list); r != wrong || err != want {
		t.Fatalf("Check(%q, %v) = %d, %v, not %d, %v", d, list, r, err, wrong, want)
	}
	x, err := suffix.Load(d, list)
	if err != want || (x == nil) != (want != api.OK) {
		t.Fatalf("Load(%q, %v) = %v, %v", d, list, x, err)
	}
}

// P13.1, P13.9: arrays that are too short, too long, with a number twice, with one outside, with two neighbours changed over.
func TestCheckOfWrongArrays(t *testing.T) {
	for _, d := range samples() {
		array := arrayOf(d)
		n := len(array)
		holdCheck(t, d, array, array)
		for _, v := range []int{-1, 0, n, math.MinInt, math.MaxInt} {
			holdCheck(t, d, append(slices.Clone(array), v), array)
		}
		holdCheck(t, d, slices.Concat(array, array, []int{0}), array)
		for r := range array {
			holdCheck(t, d, array[:r], array)
			holdCheck(t, d, slices.Concat(array[:r], array[r+1:]), array)
			holdCheck(t, d, slices.Insert(slices.Clone(array), r, array[r]), array)
			for _, v := range []int{-1, n, n + 1, math.MinInt, math.MaxInt, array[0], array[n-1], (array[r] + 1) % n} {
				list := slices.Clone(array)
				list[r] = v
				holdCheck(t, d, list, array)
				holdCheck(t, d, append(list, 0), array)
			}
			if r > 0 {
				list := slices.Clone(array)
				list[r-1], list[r] = list[r], list[r-1]
				holdCheck(t, d, list, array)
			}
		}
	}
}

// P13.1: an index of data that has no byte.
func TestNone(t *testing.T) {
	for _, d := range [][]byte{nil, {}} {
		for _, array := range [][]int{nil, {}} {
			x, err := suffix.Load(d, array)
			if err != api.OK || x == nil || x.Len() != 0 {
				t.Fatal("Load of none:", x, err)
			}
			holdNone(t, x)
		}
		holdNone(t, index(t, d))
		if r, err := suffix.Check(d, []int{0}); r != 0 || err != api.ErrSuffixArray {
			t.Error("Check of none, and an array of one:", r, err)
		}
	}
}

// holdNone: it has no byte, and is one that a call made.
func holdNone(t *testing.T, x *suffix.Index) {
	t.Helper()
	if x.Len() != 0 || len(x.Data()) != 0 || len(x.Array()) != 0 || len(x.Lcp()) != 0 {
		t.Error("of none:", x.Len(), x.Data(), x.Array(), x.Lcp())
	}
	if i, n := x.Repeat(); i != 0 || n != 0 {
		t.Error("Repeat of none:", i, n)
	}
	if b, err := x.Kth(0); len(b) != 0 || err != api.ErrSuffixPlace {
		t.Error("Kth of none:", b, err)
	}
	if l, err := x.Repeats(1); len(l) != 0 || err != api.OK {
		t.Error("Repeats of none:", l, err)
	}
	if _, err := x.At(0); err != api.ErrSuffixPlace {
		t.Error("At of none:", err)
	}
}
