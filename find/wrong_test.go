package find_test

import (
	"bytes"
	"math"
	"slices"
	"testing"

	"sapper/api"
	"sapper/find"
	"sapper/suffix"
)

// R5, and the row of errors: an index that no call made is told ahead of all other errors, and all else is zero.
func TestNotMade(t *testing.T) {
	for name, x := range map[string]*suffix.Index{"nil": nil, "zero": {}, "new": new(suffix.Index)} {
		for _, p := range [][]byte{nil, {}, {0}, []byte("a"), []byte("banana")} {
			if lo, hi, err := find.Range(x, p); lo != 0 || hi != 0 || err != api.ErrMade {
				t.Error(name, "Range:", lo, hi, err)
			}
			if n, err := find.Count(x, p); n != 0 || err != api.ErrMade {
				t.Error(name, "Count:", n, err)
			}
			if l, err := find.All(x, p); len(l) != 0 || err != api.ErrMade {
				t.Error(name, "All:", l, err)
			}
			if at, m, err := find.Longest(x, p); at != 0 || m != 0 || err != api.ErrMade {
				t.Error(name, "Longest:", at, m, err)
			}
			if l, err := find.Statistics(x, p); len(l) != 0 || err != api.ErrMade {
				t.Error(name, "Statistics:", l, err)
			}
			for _, c := range [][2]int{{1, 1}, {1, 0}, {0, 1}, {-1, -1}, {1, -1}, {1, api.MaxImage + 1}, {math.MinInt, math.MaxInt}} {
				if l, err := find.Matches(x, p, c[0], c[1]); len(l) != 0 || err != api.ErrMade {
					t.Error(name, "Matches:", c, l, err)
				}
			}
			if l, err := find.Factors(x, p); len(l) != 0 || err != api.ErrMade {
				t.Error(name, "Factors:", l, err)
			}
		}
		if n, err := find.Distinct(x); n != 0 || err != api.ErrMade {
			t.Error(name, "Distinct:", n, err)
		}
	}
}

// P14.1 to P14.12: an index of no byte is one that a call made.
func TestNone(t *testing.T) {
	for _, d := range [][]byte{nil, {}} {
		x := index(t, d)
		loaded, err := suffix.Load(d, nil)
		if err != api.OK {
			t.Fatal("Load:", err)
		}
		for _, x := range []*suffix.Index{x, loaded} {
			for _, p := range [][]byte{nil, {}, {0}, {255}, []byte("banana")} {
				holdAll(t, x, d, p)
			}
		}
	}
}

// P14.9: numbers that may not be, of any data and text; both wrong; those just at the ends may be.
func TestMatchesErrArg(t *testing.T) {
	for _, d := range words() {
		x := index(t, d)
		for _, p := range [][]byte{nil, []byte("a"), []byte("nab"), d} {
			for _, c := range [][2]int{
				{0, 1}, {-1, 1}, {math.MinInt, 1}, {0, 0}, {0, api.MaxImage},
				{1, -1}, {1, math.MinInt}, {1, api.MaxImage + 1}, {1, math.MaxInt}, {math.MaxInt, -1},
				{0, -1}, {math.MinInt, math.MinInt}, {math.MinInt, math.MaxInt}, {-1, api.MaxImage + 1},
			} {
				if l, err := find.Matches(x, p, c[0], c[1]); len(l) != 0 || err != api.ErrArg {
					t.Fatalf("of %q: Matches(%q, %d, %d) = %v, %v", d, p, c[0], c[1], l, err)
				}
			}
			for _, c := range [][2]int{{1, 0}, {1, api.MaxImage}, {math.MaxInt, 0}, {math.MaxInt, api.MaxImage}} {
				want := matchesOf(d, p, min(c[0], 100))
				if l := matches(t, x, p, c[0], c[1]); !slices.Equal(l, want[:min(len(want), c[1])]) {
					t.Fatalf("of %q: Matches(%q, %d, %d) = %v", d, p, c[0], c[1], l)
				}
			}
		}
	}
}

// holdAll: every answer against the one by definition.
func holdAll(t *testing.T, x *suffix.Index, d, p []byte) {
	t.Helper()
	lo, hi := rangeIn(t, x, p)
	at, m := longest(t, x, p)
	wantLo, wantHi := rangeOf(d, p)
	wantAt, wantM := longestOf(d, p)
	if lo != wantLo || hi != wantHi || count(t, x, p) != hi-lo || at != wantAt || m != wantM {
		t.Fatalf("of %q: Range(%q) = %d, %d; Count %d; Longest %d, %d", d, p, lo, hi, count(t, x, p), at, m)
	}
	if l := all(t, x, p); !slices.Equal(l, allOf(d, p)) {
		t.Fatalf("of %q: All(%q) = %v", d, p, l)
	}
	if l := statistics(t, x, p); !slices.Equal(l, statisticsOf(d, p)) {
		t.Fatalf("of %q: Statistics(%q) = %v", d, p, l)
	}
	if n := distinct(t, x); n != distinctOf(d) {
		t.Fatalf("of %q: Distinct = %d", d, n)
	}
	if l := matches(t, x, p, 1, api.MaxImage); !slices.Equal(l, matchesOf(d, p, 1)) {
		t.Fatalf("of %q: Matches(%q, 1, all) = %v", d, p, l)
	}
	if l := factors(t, x, p); !slices.Equal(l, factorsOf(d, p)) {
		t.Fatalf("of %q: Factors(%q) = %v", d, p, l)
	}
}

// roomy: the same, with room behind it that holds others; and all of it.
func roomy[T any](l []T, other T) ([]T, []T) {
	all := append(slices.Clone(l), other, other, other)
	return all[:len(l)], all
}

// spoil: all of a list, and the room behind it, is written over, and it is appended to.
func spoil[T any](l []T, v T) {
	for i := range l[:cap(l)] {
		l[:cap(l)][i] = v
	}
	_ = append(l, v)
	_ = append(l[:0], v)
}

// R3: bytes that are handed in stay as they are, and so do the room behind them and the index.
func TestArgumentsStay(t *testing.T) {
	for _, d := range words() {
		x := index(t, d)
		array, lcp := x.Array(), x.Lcp()
		for _, want := range texts(d) {
			p, whole := roomy(want, 9)
			_, before := roomy(want, 9)
			find.Range(x, p)
			find.Count(x, p)
			find.All(x, p)
			find.Longest(x, p)
			find.Statistics(x, p)
			find.Distinct(x)
			find.Matches(x, p, 1, 1000)
			find.Matches(x, p, 0, 1000)
			find.Factors(x, p)
			if !bytes.Equal(whole, before) {
				t.Fatalf("of %q: %q has become %q", d, before, whole)
			}
		}
		if !bytes.Equal(x.Data(), d) || !slices.Equal(x.Array(), array) || !slices.Equal(x.Lcp(), lcp) {
			t.Fatalf("the index of %q has changed: %q, %v, %v", d, x.Data(), x.Array(), x.Lcp())
		}
	}
}

// R3: what was answered hangs neither on what was handed in nor on another answer, and neither of these on it.
func TestAnswersAreNew(t *testing.T) {
	for _, d := range words() {
		for _, want := range slices.Concat(words(), [][]byte{d, slices.Concat(d, d)}) {
			x := index(t, d)
			p := slices.Clone(want)
			places, numbers := all(t, x, p), statistics(t, x, p)
			pairs, parts := matches(t, x, p, 1, 1000), factors(t, x, p)
			spoil(p, 'z')
			holdLists(t, d, want, places, numbers, pairs, parts)
			holdAll(t, x, d, want)
			spoil(all(t, x, want), -3)
			spoil(statistics(t, x, want), -3)
			spoil(matches(t, x, want, 1, 1000), find.Match{Old: -3})
			spoil(factors(t, x, want), find.Match{Old: -3})
			holdLists(t, d, want, places, numbers, pairs, parts)
			spoil(places, -4)
			spoil(numbers, -4)
			spoil(pairs, find.Match{Old: -4})
			spoil(parts, find.Match{Old: -4})
			if !bytes.Equal(p, bytes.Repeat([]byte("z"), len(p))) {
				t.Fatalf("of %q: an argument hangs on an answer: %q", d, p)
			}
			holdAll(t, x, d, want)
		}
	}
}

// holdLists: lists that were answered are as they were.
func holdLists(t *testing.T, d, p []byte, places, numbers []int, pairs, parts []find.Match) {
	t.Helper()
	if !slices.Equal(places, allOf(d, p)) || !slices.Equal(numbers, statisticsOf(d, p)) {
		t.Fatalf("of %q, and %q: All, Statistics: %v, %v", d, p, places, numbers)
	}
	if !slices.Equal(pairs, matchesOf(d, p, 1)) || !slices.Equal(parts, factorsOf(d, p)) {
		t.Fatalf("of %q, and %q: Matches, Factors: %v, %v", d, p, pairs, parts)
	}
}

// R4: what is answered hangs neither on another index, nor on what was asked ahead, nor on a capacity.
func TestTwoIndexes(t *testing.T) {
	data := words()
	var both [][2]*suffix.Index
	for _, d := range data {
		roomier, _ := roomy(d, 9)
		loaded, err := suffix.Load(roomier, index(t, d).Array())
		if err != api.OK {
			t.Fatal("Load:", err)
		}
		both = append(both, [2]*suffix.Index{index(t, d), loaded})
	}
	for i, p := range data {
		roomier, _ := roomy(p, 9)
		for k, d := range data {
			holdAll(t, both[k][0], d, roomier)
			holdAll(t, both[k][1], d, p)
			holdAll(t, both[(i+k)%len(data)][1], data[(i+k)%len(data)], p)
		}
	}
}

// R1, R2: no call panics, whatever it is given; beside an error all other answers are zero.
func TestAnything(t *testing.T) {
	r := rolls(1)
	ends := []int{math.MinInt, math.MinInt + 1, -1, 0, 1, 2, 5, api.MaxImage, api.MaxImage + 1, math.MaxInt - 1, math.MaxInt}
	for range 20000 {
		d, p := r.data(r.below(6), 1+r.below(3)), r.data(r.below(8), 1+r.below(4))
		least, most := ends[r.below(len(ends))], ends[r.below(len(ends))]
		x := index(t, d)
		wrong := least < 1 || most < 0 || most > api.MaxImage
		l, err := find.Matches(x, p, least, most)
		if wrong && (len(l) != 0 || err != api.ErrArg) || !wrong && err != api.OK {
			t.Fatalf("of %q: Matches(%q, %d, %d) = %v, %v", d, p, least, most, l, err)
		}
		if !wrong {
			if want := matchesOf(d, p, min(least, 100)); !slices.Equal(l, want[:min(len(want), most)]) {
				t.Fatalf("of %q: Matches(%q, %d, %d) = %v", d, p, least, most, l)
			}
		}
	}
}
