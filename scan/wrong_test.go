package scan_test

import (
	"bytes"
	"math"
	"slices"
	"testing"

	"sapper/api"
	"sapper/scan"
	"sapper/suffix"
)

// ends: numbers at the ends of what an int may be, and around 0.
func ends() []int {
	return []int{math.MinInt, math.MinInt + 1, math.MinInt / 2, -2, -1, 0, 1, 2, 3, 5, api.MaxImage, math.MaxInt / 2, math.MaxInt - 1, math.MaxInt}
}

// R2, R5, P15.4: an index that no call made is told ahead of a next that is too long; all else is zero.
func TestNotMade(t *testing.T) {
	tooLong := make([]byte, api.MaxImage+1)
	for name, x := range map[string]*suffix.Index{"nil": nil, "zero": {}, "new": new(suffix.Index)} {
		for _, next := range [][]byte{nil, {}, {0}, []byte("abcdefghij"), tooLong} {
			if l, err := scan.Steps(x, next); len(l) != 0 || err != api.ErrMade {
				t.Errorf("%s, to %d bytes: %v, %v", name, len(next), l, err)
			}
		}
	}
}

// P15.4: next of one byte more than may be, of any old; of just as many.
func TestScanMany(t *testing.T) {
	next := make([]byte, api.MaxImage+1)
	for _, d := range [][]byte{nil, {}, {0}, {0, 0}, []byte("abc")} {
		x := index(t, d)
		for _, more := range []int{1, 0} {
			l, err := scan.Steps(x, next[:api.MaxImage+more])
			if more == 1 && (len(l) != 0 || err != api.ErrScanMany) {
				t.Errorf("from %q to too many: %d steps, %v", d, len(l), err)
			}
			if more == 0 && (len(l) == 0 || err != api.OK) {
				t.Errorf("from %q to MaxImage bytes: %d steps, %v", d, len(l), err)
			}
			if err == api.OK {
				holdSums(t, "MaxImage", d, next[:api.MaxImage], l)
			}
		}
	}
}

// P15.4 to P15.6: an index of no byte is one that a call made.
func TestNone(t *testing.T) {
	for _, d := range [][]byte{nil, {}} {
		loaded, err := suffix.Load(d, nil)
		if err != api.OK {
			t.Fatal("Load:", err)
		}
		for _, x := range []*suffix.Index{index(t, d), loaded} {
			for _, next := range words() {
				l := steps(t, x, next)
				if len(next) == 0 && len(l) != 0 || len(next) > 0 && !slices.Equal(l, []api.Step{{Copy: len(next)}}) {
					t.Errorf("from nothing to %q: %v", next, l)
				}
			}
		}
	}
}

// R1, R6, P15.1, P15.2: places at the ends of what an int may be: no sum of them wraps.
func TestPaysAtTheEnds(t *testing.T) {
	for _, c := range cross([][]byte{nil, []byte("a"), []byte("aaa"), []byte("abcde")}, [][]byte{nil, []byte("a"), []byte("aaa"), []byte("abcde")}) {
		for _, pos := range ends() {
			for _, from := range ends() {
				for _, to := range ends() {
					holdPays(t, c.old, pos, c.next, from, to)
				}
			}
		}
	}
}

// R1, R6, P15.3: likewise; pairs of places and counts whose sum would wrap among them.
func TestSplitAtTheEnds(t *testing.T) {
	for _, c := range cross([][]byte{nil, []byte("a"), []byte("abcde")}, [][]byte{nil, []byte("a"), []byte("abcde")}) {
		for _, pos := range ends() {
			for _, back := range ends() {
				for _, at := range ends() {
					for _, n := range ends() {
						holdSplit(t, c.old, pos, back, c.next, at, n)
					}
				}
			}
		}
	}
}

// R3: no bytes may be told as nil and as empty, which is the same.
func TestNilAndEmpty(t *testing.T) {
	d := []byte("abc")
	for _, none := range [][]byte{nil, {}} {
		if scan.Forward(none, 0, d, 0, 3) != 0 || scan.Forward(d, 0, none, 0, 0) != 0 || scan.Backward(none, 0, d, 0, 3) != 0 || scan.Backward(d, 3, none, 0, 0) != 0 {
			t.Error("Forward, Backward of none")
		}
		if scan.Split(none, 0, 0, d, 0, 0) != 0 || scan.Split(none, 0, 0, d, 0, 1) != 0 || scan.Split(d, 0, 0, none, 0, 0) != 0 || scan.Split(d, 0, 0, none, 0, 1) != 0 {
			t.Error("Split of none")
		}
		if l := steps(t, index(t, d), none); len(l) != 0 {
			t.Error("Steps to none:", l)
		}
	}
}

// roomy: the same, with room behind it that holds others; and all of it.
func roomy[T any](l []T, other T) ([]T, []T) {
	all := append(slices.Clone(l), other, other, other)
	return all[:len(l)], all
}

// spoil: all of a list, and the room behind it, is written over, and it is appended to.
func spoil[T any](l []T, v T) {
	for i := range l[:cap(l)] {
		l[:cap(l)][i] = v
	}
	_ = append(l, v)
	_ = append(l[:0], v)
}

// R3: bytes that are handed in stay as they are, and so do the room behind them and the index.
func TestArgumentsStay(t *testing.T) {
	for _, c := range slices.Concat(cross(words(), words()), drawn(30)) {
		x := index(t, c.old)
		array, lcp := x.Array(), x.Lcp()
		old, wholeOld := roomy(c.old, 9)
		next, wholeNext := roomy(c.next, 9)
		_, beforeOld := roomy(c.old, 9)
		_, beforeNext := roomy(c.next, 9)
		scan.Steps(x, next)
		scan.Forward(old, 0, next, 0, len(next))
		scan.Backward(old, len(old), next, 0, len(next))
		n := min(len(old), len(next))
		scan.Split(old, 0, len(old)-n, next, 0, n)
		if !bytes.Equal(wholeOld, beforeOld) || !bytes.Equal(wholeNext, beforeNext) {
			t.Fatalf("%q and %q have become %q and %q", beforeOld, beforeNext, wholeOld, wholeNext)
		}
		if !bytes.Equal(x.Data(), c.old) || !slices.Equal(x.Array(), array) || !slices.Equal(x.Lcp(), lcp) {
			t.Fatalf("the index of %q has changed: %q, %v, %v", c.old, x.Data(), x.Array(), x.Lcp())
		}
	}
}

// R3: what was answered hangs neither on what was handed in nor on another answer, and neither of these on it.
func TestAnswersAreNew(t *testing.T) {
	for _, c := range slices.Concat(cross(words(), words()), drawn(30)) {
		x := index(t, c.old)
		next := slices.Clone(c.next)
		l := steps(t, x, next)
		want := slices.Clone(l)
		spoil(next, 'z')
		spoil(steps(t, x, c.next), api.Step{Add: -3})
		if !slices.Equal(l, want) {
			t.Fatalf("from %q to %q: an answer has changed: %v, not %v", c.old, c.next, l, want)
		}
		spoil(l, api.Step{Add: -4})
		if !bytes.Equal(next, bytes.Repeat([]byte("z"), len(next))) || !slices.Equal(steps(t, x, c.next), want) {
			t.Fatalf("from %q to %q: an answer that was written over leads elsewhere", c.old, c.next)
		}
	}
}

// R4: what is answered hangs neither on another index, nor on what was asked ahead, nor on a capacity.
func TestTwoIndexes(t *testing.T) {
	data := words()
	var all []*suffix.Index
	for _, d := range data {
		roomier, _ := roomy(d, 9)
		all = append(all, index(t, roomier))
	}
	for _, next := range data {
		roomier, _ := roomy(next, 9)
		for k, d := range data {
			want := stepsOf(d, next, literal(d, next, func(string) {}))
			a, b := steps(t, all[k], roomier), steps(t, all[k], next)
			if !slices.Equal(a, want) || !slices.Equal(b, want) {
				t.Fatalf("from %q to %q: %v, %v, not %v", d, next, a, b, want)
			}
		}
	}
}

// R1: no call panics, whatever it is given; what is answered is what the chapter says.
func TestAnything(t *testing.T) {
	r := rolls(1)
	pick := func() int {
		if r.below(2) == 0 {
			return r.below(12) - 2
		}
		return ends()[r.below(len(ends()))]
	}
	for range 20000 {
		old, next := r.data(r.below(9), 1+r.below(3)), r.data(r.below(9), 1+r.below(3))
		holdPays(t, old, pick(), next, pick(), pick())
		holdSplit(t, old, pick(), pick(), next, pick(), pick())
	}
}
