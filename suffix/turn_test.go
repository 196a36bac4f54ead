package suffix_test

import (
	"bytes"
	"math"
	"slices"
	"testing"

	"sapper/api"
	"sapper/suffix"
)

// turn: the answer of data that may be.
func turn(t *testing.T, d []byte) ([]byte, int) {
	t.Helper()
	b, end, err := suffix.Turn(d)
	if err != api.OK {
		t.Fatalf("Turn(of %d bytes): %v", len(d), err)
	}
	return b, end
}

// P13.10, P13.11: the chapter's example 6.
func TestTurnExamples(t *testing.T) {
	if b, end := turn(t, []byte("banana")); string(b) != "annbaa" || end != 4 {
		t.Errorf("Turn of banana: %q, %d", b, end)
	}
	if b, end := turn(t, nil); len(b) != 0 || end != 0 {
		t.Errorf("Turn of none: %q, %d", b, end)
	}
	if d, err := suffix.Unturn([]byte("annbaa"), 4); string(d) != "banana" || err != api.OK {
		t.Errorf("Unturn of annbaa: %q, %v", d, err)
	}
	if d, err := suffix.Unturn([]byte("ab"), 0); len(d) != 0 || err != api.ErrSuffixArray {
		t.Errorf("Unturn of ab, 0: %q, %v", d, err)
	}
	for _, none := range [][]byte{nil, {}} {
		if d, err := suffix.Unturn(none, 0); len(d) != 0 || err != api.OK {
			t.Errorf("Unturn of none: %q, %v", d, err)
		}
	}
}

// P13.10, P13.13: Turn by definition; it has the same bytes; Unturn undoes it.
func TestTurn(t *testing.T) {
	for _, d := range samples() {
		b, end := turn(t, d)
		if want, wantEnd := turnOf(d); !bytes.Equal(b, want) || end != wantEnd {
			t.Fatalf("Turn of %q = %q, %d, not %q, %d", d, b, end, want, wantEnd)
		}
		if x, y := slices.Sorted(slices.Values(d)), slices.Sorted(slices.Values(b)); !bytes.Equal(x, y) {
			t.Fatalf("Turn of %q = %q: other bytes", d, b)
		}
		if got, err := suffix.Unturn(b, end); !bytes.Equal(got, d) || err != api.OK {
			t.Fatalf("Unturn of %q, %d = %q, %v, not %q", b, end, got, err, d)
		}
	}
}

// P13.10, P13.11: the whole row first behind the empty one, in the middle, last.
func TestTurnRows(t *testing.T) {
	for _, c := range []struct {
		d, b string
		end  int
	}{
		{"a", "a", 1}, {"\x00", "\x00", 1}, {"\xff", "\xff", 1},
		{"ab", "ba", 1}, {"ba", "ab", 2}, {"aa", "aa", 2},
		{"abc", "cab", 1}, {"bac", "cba", 2}, {"cba", "abc", 3}, {"aaaa", "aaaa", 4},
		{"\x00\xff", "\xff\x00", 1}, {"\xff\x00", "\x00\xff", 2},
		{"banana", "annbaa", 4}, {"nabana", "annbaa", 6}, // the same lasts
	} {
		if b, end := turn(t, []byte(c.d)); string(b) != c.b || end != c.end {
			t.Errorf("Turn of %q = %q, %d, not %q, %d", c.d, b, end, c.b, c.end)
		}
		if d, err := suffix.Unturn([]byte(c.b), c.end); string(d) != c.d || err != api.OK {
			t.Errorf("Unturn of %q, %d = %q, %v, not %q", c.b, c.end, d, err, c.d)
		}
	}
}

// turned: lasts, and how many rows stand ahead.
type turned struct {
	lasts string
	end   int
}

// P13.11, P13.13: of all bytes and ends of few letters: the data, or that there is none.
func TestUnturnOfAll(t *testing.T) {
	for _, all := range [][][]byte{short(9, 2), short(6, 3), short(5, 4)} {
		from := map[turned][]byte{}
		for _, d := range all {
			b, end := turnOf(d)
			from[turned{string(b), end}] = d
		}
		if len(from) != len(all) {
			t.Fatal("two data have one Turn")
		}
		for _, b := range all {
			for end := range len(b) + 1 {
				want, there := from[turned{string(b), end}]
				holdUnturn(t, b, end, want, there)
			}
		}
	}
}

// holdUnturn: the data of b and end, or, if there is none, the error.
func holdUnturn(t *testing.T, b []byte, end int, want []byte, there bool) {
	t.Helper()
	d, err := suffix.Unturn(b, end)
	if !there && (len(d) != 0 || err != api.ErrSuffixArray) {
		t.Fatalf("Unturn of %q, %d, which is the Turn of nothing = %q, %v", b, end, d, err)
	}
	if there && (!bytes.Equal(d, want) || err != api.OK) {
		t.Fatalf("Unturn of %q, %d = %q, %v, not %q", b, end, d, err, want)
	}
}

// P13.13: of drawn bytes and ends: what Unturn takes, Turn makes of its answer; what it refuses is the Turn of nothing.
func TestUnturnOfDrawn(t *testing.T) {
	r := rolls(11)
	taken, refused := 0, 0
	for range 4000 {
		b := r.data(1+r.below(12), 1+r.below(4))
		end := r.below(len(b) + 1)
		if r.below(3) == 0 { // near to one that is a Turn
			b, end = turnOf(b)
			i, k := r.below(len(b)), r.below(len(b))
			b[i], b[k] = b[k], b[i]
		}
		d, err := suffix.Unturn(b, end)
		if err != api.OK {
			refused++
			if err != api.ErrSuffixArray || len(d) != 0 {
				t.Fatalf("Unturn of %q, %d = %q, %v", b, end, d, err)
			}
			continue
		}
		taken++
		if got, back := turnOf(d); !bytes.Equal(got, b) || back != end {
			t.Fatalf("Unturn of %q, %d = %q, whose Turn is %q, %d", b, end, d, got, back)
		}
	}
	if taken < 100 || refused < 100 {
		t.Error("the test is wrong:", taken, refused)
	}
}

// P13.11: ends that there are not; bytes of which the rows go round too soon.
func TestUnturnWrong(t *testing.T) {
	for _, b := range [][]byte{nil, {}, {7}, []byte("ab"), []byte("annbaa")} {
		for _, end := range []int{-1, len(b) + 1, math.MinInt, math.MaxInt} {
			if d, err := suffix.Unturn(b, end); len(d) != 0 || err != api.ErrSuffixPlace {
				t.Errorf("Unturn of %q, %d = %q, %v", b, end, d, err)
			}
		}
	}
	for _, c := range []turned{{"a", 0}, {"annbaa", 0}, {"annbaa", 1}, {"annbaa", 3}, {"annbaa", 5}, {"ab", 1}, {"aaa", 2}, {"\x00\xff", 1}} {
		if d, err := suffix.Unturn([]byte(c.lasts), c.end); len(d) != 0 || err != api.ErrSuffixArray {
			t.Errorf("Unturn of %q, %d = %q, %v", c.lasts, c.end, d, err)
		}
	}
}
