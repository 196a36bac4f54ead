package suffix_test

import (
	"bytes"
	"math"
	"slices"
	"testing"

	"sapper/api"
	"sapper/suffix"
)

// P13.1, P13.10 to P13.12: more bytes than MaxImage, and which error comes first where several are due.
func TestTooManyBytes(t *testing.T) {
	many := make([]byte, api.MaxImage+1)
	if x, err := suffix.New(many); x != nil || err != api.ErrSuffixMany {
		t.Error("New:", err)
	}
	for _, array := range [][]int{nil, {-1}, {0, 0}, make([]int, len(many))} {
		if x, err := suffix.Load(many, array); x != nil || err != api.ErrSuffixMany {
			t.Error("Load:", err)
		}
		if r, err := suffix.Check(many, array); r != 0 || err != api.ErrSuffixMany {
			t.Error("Check:", r, err)
		}
	}
	if b, end, err := suffix.Turn(many); len(b) != 0 || end != 0 || err != api.ErrSuffixMany {
		t.Error("Turn:", len(b), end, err)
	}
	for _, end := range []int{0, 1, -1, len(many), len(many) + 1, math.MaxInt, math.MinInt} {
		if d, err := suffix.Unturn(many, end); len(d) != 0 || err != api.ErrSuffixMany {
			t.Error("Unturn:", end, len(d), err)
		}
	}
	for _, c := range [][2][]byte{{many, nil}, {nil, many}, {many, many}, {many, []byte("a")}, {[]byte("a"), many}} {
		if i, k, n, err := suffix.Shared(c[0], c[1]); i != 0 || k != 0 || n != 0 || err != api.ErrSuffixMany {
			t.Error("Shared:", i, k, n, err)
		}
	}
}

// P13.1, P13.10 to P13.12: just as many bytes as may be.
func TestJustMaxImage(t *testing.T) {
	const n = api.MaxImage
	d := make([]byte, n)
	d[0] = 1 // so that the whole data stands last, and all others by their lengths
	array := make([]int, n)
	for r := range array {
		array[r] = n - 1 - r
	}
	if r, err := suffix.Check(d, array); r != 0 || err != api.OK {
		t.Error("Check:", r, err)
	}
	if r, err := suffix.Check(d, append(array, n)); r != n || err != api.ErrSuffixArray {
		t.Error("Check of one more:", r, err)
	}
	x, err := suffix.Load(d, array)
	if err != api.OK || x.Len() != n || rank(t, x, 0) != n-1 || at(t, x, 0) != n-1 || common(t, x, 1, 2) != n-2 {
		t.Fatal("Load:", err)
	}
	if i, m := x.Repeat(); i != 1 || m != n-2 {
		t.Error("Repeat:", i, m)
	}
	b, end := turn(t, d)
	if end != n || len(b) != n || b[n-1] != 1 {
		t.Error("Turn:", len(b), end)
	}
	if got, err := suffix.Unturn(b, end); !bytes.Equal(got, d) || err != api.OK {
		t.Error("Unturn:", len(got), err)
	}
	if got, err := suffix.Unturn(b, n+1); len(got) != 0 || err != api.ErrSuffixPlace {
		t.Error("Unturn, one end beyond:", len(got), err)
	}
	if i, k, m, err := suffix.Shared(d, make([]byte, n)); i != 1 || k != 0 || m != n-1 || err != api.OK {
		t.Error("Shared:", i, k, m, err)
	}
	if x = index(t, d); !slices.Equal(x.Array(), array) {
		t.Error("New: another array")
	}
}

// R5: an index that no call made answers zero values, and ErrMade ahead of all other errors.
func TestNotMade(t *testing.T) {
	for name, x := range map[string]*suffix.Index{"nil": nil, "zero": {}, "new": new(suffix.Index)} {
		if x.Len() != 0 || len(x.Data()) != 0 || len(x.Array()) != 0 || len(x.Lcp()) != 0 {
			t.Error(name, x.Len(), x.Data(), x.Array(), x.Lcp())
		}
		if i, n := x.Repeat(); i != 0 || n != 0 {
			t.Error(name, "Repeat:", i, n)
		}
		for _, i := range []int{0, 1, -1, math.MinInt, math.MaxInt} {
			if got, err := x.At(i); got != 0 || err != api.ErrMade {
				t.Error(name, "At:", got, err)
			}
			if got, err := x.Rank(i); got != 0 || err != api.ErrMade {
				t.Error(name, "Rank:", got, err)
			}
			if got, err := x.Common(i, -i); got != 0 || err != api.ErrMade {
				t.Error(name, "Common:", got, err)
			}
			for _, p := range [][]byte{nil, []byte("a")} {
				if got, n, err := x.Compare(i, p); got != 0 || n != 0 || err != api.ErrMade {
					t.Error(name, "Compare:", got, n, err)
				}
			}
			if b, err := x.Kth(i); len(b) != 0 || err != api.ErrMade {
				t.Error(name, "Kth:", b, err)
			}
			if l, err := x.Repeats(i); len(l) != 0 || err != api.ErrMade {
				t.Error(name, "Repeats:", l, err)
			}
		}
	}
}

// R1, R2: no call panics, whatever numbers it is given; beside an error all other answers are zero.
func TestAnything(t *testing.T) {
	r := rolls(1)
	for range 3000 {
		d := r.data(r.below(6), 1+r.below(3))
		ends := []int{math.MinInt, -1, 0, 1, 2, len(d) - 1, len(d), len(d) + 1, math.MaxInt}
		draw := func() int { return ends[r.below(len(ends))] }
		array := make([]int, r.below(len(d)+2))
		for i := range array {
			array[i] = draw()
		}
		if _, err := suffix.Load(d, array); err != api.OK && err != api.ErrSuffixArray {
			t.Fatalf("Load(%q, %v): %v", d, array, err)
		}
		x := index(t, d)
		i, k := draw(), draw()
		outside := i < 0 || i >= len(d)
		if v, err := x.At(i); outside != (err == api.ErrSuffixPlace) || outside && v != 0 {
			t.Fatalf("At(%d) of %q = %d, %v", i, d, v, err)
		}
		if v, err := x.Common(i, k); (outside || k < 0 || k >= len(d)) != (err == api.ErrSuffixPlace) || err != api.OK && v != 0 {
			t.Fatalf("Common(%d, %d) of %q = %d, %v", i, k, d, v, err)
		}
		if b, err := suffix.Unturn(d, i); err != api.OK && len(b) != 0 {
			t.Fatalf("Unturn(%q, %d) = %q, %v", d, i, b, err)
		}
		x.Rank(i)
		x.Compare(i, d)
		x.Kth(i)
		x.Repeats(i)
	}
}

// roomy: the same, with room behind it that holds others; and all of it.
func roomy[T any](l []T, other T) ([]T, []T) {
	all := append(slices.Clone(l), other, other, other)
	return all[:len(l)], all
}

// R3: what is handed in stays as it is, and so does the room behind it.
func TestArgumentsStay(t *testing.T) {
	for _, want := range samples() {
		d, all := roomy(want, 9)
		p, allP := roomy(slices.Concat(want, []byte("x")), 9)
		array, allArray := roomy(arrayOf(want), -9)
		_, before := roomy(want, 9)
		_, beforeP := roomy(slices.Concat(want, []byte("x")), 9)
		_, beforeArray := roomy(arrayOf(want), -9)
		x := index(t, d)
		y, _ := suffix.Load(d, array)
		suffix.Check(d, array[:len(array)/2])
		for _, x := range []*suffix.Index{x, y} {
			for i := range d {
				x.Compare(i, p)
			}
			x.Repeats(1)
			x.Repeat()
			x.Lcp()
		}
		b, end := turn(t, d)
		suffix.Unturn(b, end)
		suffix.Unturn(d, end)
		suffix.Shared(d, p)
		if !bytes.Equal(all, before) || !bytes.Equal(allP, beforeP) || !slices.Equal(allArray, beforeArray) {
			t.Fatalf("of %q: %q, %q, %v", want, all, allP, allArray)
		}
		got, _ := roomy(b, 9)
		suffix.Unturn(got, end)
		if !bytes.Equal(got, b) {
			t.Fatalf("Unturn has changed %q to %q", b, got)
		}
	}
}

// spoil: all of a list, and the room behind it, is written over, and it is appended to.
func spoil[T any](l []T, v T) {
	for i := range l[:cap(l)] {
		l[:cap(l)][i] = v
	}
	_ = append(l, v)
	_ = append(l[:0], v)
}

// holdIndex: all that an index tells, against the answers by definition.
func holdIndex(t *testing.T, x *suffix.Index, d []byte) {
	t.Helper()
	if x.Len() != len(d) || !bytes.Equal(x.Data(), d) || !slices.Equal(x.Array(), arrayOf(d)) || !slices.Equal(x.Lcp(), lcpOf(d)) {
		t.Fatalf("of %q: %q, %v, %v", d, x.Data(), x.Array(), x.Lcp())
	}
	for r, i := range arrayOf(d) {
		c, n, err := x.Compare(i, d[i:])
		if at(t, x, r) != i || rank(t, x, i) != r || common(t, x, i, 0) != commonOf(d[i:], d) || c != 0 || n != len(d)-i || err != api.OK {
			t.Fatalf("of %q: place %d, rank %d", d, i, r)
		}
	}
	i, n := x.Repeat()
	if wantAt, want := repeatOf(d); i != wantAt || n != want {
		t.Fatalf("Repeat of %q = %d, %d", d, i, n)
	}
	if got := repeats(t, x, 1); !slices.Equal(got, repeatsOf(d, 1)) {
		t.Fatalf("Repeats(1) of %q = %v", d, got)
	}
	for k, want := range kindsOf(d) {
		if b, err := x.Kth(k); string(b) != want || err != api.OK {
			t.Fatalf("Kth(%d) of %q = %q, %v", k, d, b, err)
		}
	}
}

// R3: an index keeps to its own where what was handed in is written over later.
func TestIndexKeepsItsOwn(t *testing.T) {
	for _, want := range words() {
		d, _ := roomy(want, 9)
		array, _ := roomy(arrayOf(want), -9)
		x := index(t, d)
		y, err := suffix.Load(d, array)
		if err != api.OK {
			t.Fatal(err)
		}
		spoil(d, 'z')
		spoil(array, -3)
		holdIndex(t, x, want)
		holdIndex(t, y, want)
	}
}

// R3: what was answered is the caller's: an index does not hang on it, nor does another answer, nor an argument.
func TestAnswersAreNew(t *testing.T) {
	for _, want := range words() {
		for _, x := range indexes(t, want) {
			data, array, lcp, all := x.Data(), x.Array(), x.Lcp(), repeats(t, x, 1)
			first, _ := x.Kth(0)
			spoil(data, 'z')
			if !slices.Equal(array, arrayOf(want)) || !slices.Equal(lcp, lcpOf(want)) {
				t.Fatalf("of %q: one answer hangs on another one", want)
			}
			spoil(array, -3)
			spoil(lcp, -3)
			spoil(all, suffix.Again{})
			spoil(first, 'z')
			holdIndex(t, x, want)
		}
	}
}

// R3: what was answered stays as it is, whatever is done later; Turn and Unturn answer new memory.
func TestAnswersStay(t *testing.T) {
	for _, want := range words() {
		d := slices.Clone(want)
		lasts, wantEnd := turnOf(want)
		b, end := turn(t, d)
		spoil(d, 'z')
		if !bytes.Equal(b, lasts) || end != wantEnd {
			t.Fatalf("Turn of %q hangs on it", want)
		}
		back, err := suffix.Unturn(b, end)
		spoil(b, 'y')
		if !bytes.Equal(back, want) || err != api.OK {
			t.Fatalf("Unturn of %q hangs on it: %q, %v", lasts, back, err)
		}
		spoil(back, 'x')
		if !bytes.Equal(d, bytes.Repeat([]byte("z"), len(d))) || !bytes.Equal(b, bytes.Repeat([]byte("y"), len(d))) {
			t.Fatalf("of %q: an argument hangs on an answer", want)
		}
		x := index(t, want)
		data, array, lcp, all := x.Data(), x.Array(), x.Lcp(), repeats(t, x, 1)
		x.Repeat()
		x.Kth(0)
		spoil(x.Data(), 'z')
		spoil(x.Array(), -3)
		spoil(x.Lcp(), -3)
		if !bytes.Equal(data, want) || !slices.Equal(array, arrayOf(want)) || !slices.Equal(lcp, lcpOf(want)) || !slices.Equal(all, repeatsOf(want, 1)) {
			t.Fatalf("of %q: an earlier answer hangs on a later one", want)
		}
	}
}

// R4: two indexes know nothing of each other, and what is answered hangs neither on what was asked ahead nor on a capacity.
func TestTwoIndexes(t *testing.T) {
	var all []*suffix.Index
	for _, d := range words() {
		roomier, _ := roomy(d, 9)
		all = append(all, index(t, d), index(t, roomier))
	}
	for i, d := range slices.Backward(words()) {
		holdIndex(t, all[2*i+1], d)
		holdIndex(t, all[2*i], d)
		holdIndex(t, all[2*i+1], d)
	}
}
