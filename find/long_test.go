package find_test

import (
	"bytes"
	"slices"
	"testing"
	"time"

	"sapper/api"
	"sapper/find"
	"sapper/suffix"
)

// limit: a way that goes over all places at each place of the text, or holds texts against each other from their first byte on, would take far longer of some of these.
const limit = 30 * time.Second

// quick: the call ends within the limit.
func quick(t *testing.T, name string, call func()) {
	t.Helper()
	begin := time.Now()
	call()
	if took := time.Since(begin); took > limit {
		t.Errorf("%s took %v", name, took)
	}
}

// longTexts: of data that are long: itself, its last part and itself again, single bytes changed, and unlike ones.
func longTexts(d []byte) []shape {
	n := len(d)
	changed := slices.Clone(d)
	for i := 0; i < n; i += 997 {
		changed[i]++
	}
	return []shape{
		{"itself", d},
		{"turned over", slices.Concat(d[n/3:], d[:n/2])},
		{"changed", changed},
		{"by turns", counted(n, func(i int) int { return i % 2 })},
		{"alike", make([]byte, n)},
	}
}

// P14.1 to P14.12 of data and texts that are long: R1, every call ends; what is answered is right as far as it can be told.
func TestLong(t *testing.T) {
	for _, s := range shapes(1 << 16) {
		x := index(t, s.data)
		for _, o := range longTexts(s.data) {
			quick(t, s.name+", "+o.name, func() { holdLong(t, s.name+", "+o.name, x, s.data, o.data) })
		}
	}
}

// holdLong: all answers of long ones, at some places.
func holdLong(t *testing.T, name string, x *suffix.Index, d, p []byte) {
	t.Helper()
	numbers := statistics(t, x, p)
	for i := 0; i < len(p); i += 1 + len(p)/7 {
		at, m := longest(t, x, p[i:])
		if m != numbers[i] || m > 0 && (!stands(d, p[i:i+m], at) || bytes.Index(d, p[i:i+m]) != at) {
			t.Fatalf("%s: Longest from %d on: %d, %d; Statistics: %d", name, i, at, m, numbers[i])
		}
		if n := count(t, x, p[i:i+m]); n != len(all(t, x, p[i:i+m])) || n == 0 || i+m < len(p) && count(t, x, p[i:i+m+1]) != 0 {
			t.Fatalf("%s: Count of %d bytes from %d on: %d", name, m, i, n)
		}
	}
	found := matches(t, x, p, 1, 1<<17)
	for i := 0; i < len(found); i += 1 + len(found)/50 {
		if m := found[i]; !isMatch(d, p, m) || m.Len > numbers[m.New] || i > 0 && !ahead(found[i-1], m) {
			t.Fatalf("%s: the match %v", name, m)
		}
	}
	parts := factors(t, x, p)
	holdParts(t, d, p, parts)
	for i := 0; i < len(parts); i += 1 + len(parts)/50 {
		m := parts[i]
		if m.Len != numbers[m.New] || bytes.Index(d, p[m.New:m.New+m.Len]) != m.Old {
			t.Fatalf("%s: the part %v", name, m)
		}
	}
}

// ahead: does a match stand ahead of another one?
func ahead(a, b find.Match) bool {
	return a.New < b.New || a.New == b.New && a.Old < b.Old
}

// P14.9: of many alike bytes all matches: one of each length at either begin.
func TestMatchesOfAlike(t *testing.T) {
	const n = 1 << 19
	d := make([]byte, n)
	quick(t, "alike", func() {
		l := matches(t, index(t, d), d, 1, api.MaxImage)
		if len(l) != 2*n-1 {
			t.Fatal("how many:", len(l))
		}
		for i, m := range l {
			want := find.Match{Old: i, New: 0, Len: n - i}
			if i >= n {
				want = find.Match{Old: 0, New: i - n + 1, Len: 2*n - 1 - i}
			}
			if m != want {
				t.Fatal(i, m)
			}
		}
	})
}

// P14.12: many parts, each at as many places, which all stand at the data's end.
func TestFactorsOfAlike(t *testing.T) {
	const n = 1 << 19
	d := counted(n, func(i int) int { return 2 * i / n })
	p := counted(n, func(i int) int { return 1 + i%2 })
	quick(t, "many parts", func() {
		l := factors(t, index(t, d), p)
		if len(l) != n {
			t.Fatal("how many:", len(l))
		}
		for i, m := range l {
			want := find.Match{Old: n / 2, New: i, Len: 1}
			if i%2 == 1 {
				want = find.Match{New: i}
			}
			if m != want {
				t.Fatal(i, m)
			}
		}
	})
}

// Range, Count and Longest take time by the text, not by the data: many short texts in long data.
func TestManyShortTexts(t *testing.T) {
	r := rolls(9)
	d := r.data(1<<20, 256)
	x := index(t, d)
	quick(t, "short texts", func() {
		for range 100000 {
			from := r.below(len(d) - 8)
			p := d[from : from+8]
			lo, hi, err := find.Range(x, p)
			n, _ := find.Count(x, p)
			at, m, _ := find.Longest(x, p)
			if err != api.OK || n < 1 || n != hi-lo || m != 8 || at > from || !bytes.Equal(d[at:at+m], p) {
				t.Fatalf("of %v: %d, %d, %d, %d, %d", p, lo, hi, n, at, m)
			}
		}
	})
}

// P14.1, P14.3, P14.5, P14.9: just as many bytes as an image may have: no number wraps.
func TestJustMaxImage(t *testing.T) {
	const n, run = api.MaxImage, api.MaxImage / 256
	d := counted(n, func(i int) int { return i / run })
	x := index(t, d)
	// Within each run as many as it has bytes; of two runs each begin in the one with each end in the other.
	if got, want := distinct(t, x), 256*run+256*255/2*run*run; got != want {
		t.Errorf("Distinct: %d, not %d", got, want)
	}
	if lo, hi := rangeIn(t, x, d); lo != 0 || hi != 1 { // the more bytes 0 a suffix begins with, the less it is
		t.Error("Range of itself:", lo, hi)
	}
	if at, m := longest(t, x, append(d, 0)); at != 0 || m != n {
		t.Error("Longest of one more:", at, m)
	}
	if l := matches(t, x, []byte{255, 0}, 1, n); len(l) != 2*run || l[0] != (find.Match{Old: n - run, Len: 1}) || l[2*run-1] != (find.Match{Old: run - 1, New: 1, Len: 1}) {
		t.Error("Matches:", len(l))
	}
}
