package purse_test

import (
	"fmt"
	"math"
	"testing"

	"sapper/api"
)

// P23.1: of a name that is not there ErrPurseName stands ahead of ErrArg, whatever n is.
func TestHoldOfNone(t *testing.T) {
	p := opened(t, "a", "abc")
	ok(t, p.Hold("a", 4))
	for _, name := range []string{"", "b", "ab", "abcd", "A", "a\x00", "\xff"} {
		for _, n := range []int{0, 1, 10, 11, -1, top, top + 1, math.MinInt, math.MaxInt} {
			expect(t, fmt.Sprintf("%q, %d", name, n), p.Hold(name, n), api.ErrPurseName)
		}
	}
	expectTold(t, p, 4, 4, 20, "a", "abc")
}

// P23.1: n at its ends and beyond them, for holders of any kind; a refused Hold changes nothing.
func TestHoldEnds(t *testing.T) {
	for _, most := range []int{0, 1, 2, 10, 1000, top - 1, top} {
		p := opened(t, "other")
		ok(t, p.Hold("other", 3), p.Open("a", most))
		for _, n := range []int{-1, -2, math.MinInt, most + 1, most + 2, top + 1, math.MaxInt} {
			expect(t, fmt.Sprintf("%d of %d", n, most), p.Hold("a", n), api.ErrArg)
			expectTold(t, p, 3, 3, 10+most, "a", "other")
		}
		ok(t, p.Hold("a", most))
		expectTold(t, p, 3+most, 3+most, 10+most, "a", "other")
		for _, n := range []int{-1, math.MinInt, most + 1, math.MaxInt} {
			expect(t, fmt.Sprintf("%d of %d, held", n, most), p.Hold("a", n), api.ErrArg)
			expectTold(t, p, 3+most, 3+most, 10+most, "a", "other")
		}
		ok(t, p.Hold("a", 0))
		expectTold(t, p, 3, 3+most, 10+most, "a", "other")
	}
}

// P23.1, P23.2: rows of Holds of a, b and c, and what Held and Peak are behind each: a holder holds n instead of what it held, and the peak is neither the last sum nor the sum of the greatest.
func TestHeldAndPeak(t *testing.T) {
	type hold struct {
		name       string
		n          int
		held, peak int
	}
	for i, row := range [][]hold{
		{{"a", 5, 5, 5}, {"a", 3, 3, 5}, {"a", 9, 9, 9}, {"a", 0, 0, 9}, {"a", 10, 10, 10}, {"a", 10, 10, 10}},
		{{"a", 7, 7, 7}, {"b", 5, 12, 12}, {"a", 2, 7, 12}, {"b", 9, 11, 12}, {"b", 10, 12, 12}, {"a", 3, 13, 13}},
		{{"a", 10, 10, 10}, {"a", 0, 0, 10}, {"b", 10, 10, 10}, {"b", 0, 0, 10}, {"c", 10, 10, 10}, {"c", 0, 0, 10}},
		{{"a", 0, 0, 0}, {"b", 0, 0, 0}, {"c", 1, 1, 1}, {"c", 0, 0, 1}},
		{{"a", 4, 4, 4}, {"b", 4, 8, 8}, {"c", 4, 12, 12}, {"b", 0, 8, 12}, {"a", 7, 11, 12}, {"c", 6, 13, 13}, {"b", 1, 14, 14}, {"c", 0, 8, 14}},
		{{"a", 1, 1, 1}, {"a", 2, 2, 2}, {"a", 3, 3, 3}, {"b", 1, 4, 4}, {"a", 0, 1, 4}, {"b", 5, 5, 5}},
	} {
		p := opened(t, "a", "b", "c")
		for k, h := range row {
			ok(t, p.Hold(h.name, h.n))
			if p.Held() != h.held || p.Peak() != h.peak {
				t.Errorf("row %d, behind %d: Held %d, Peak %d, not %d, %d", i, k, p.Held(), p.Peak(), h.held, h.peak)
			}
		}
		expectTold(t, p, row[len(row)-1].held, row[len(row)-1].peak, 30, "a", "b", "c")
	}
}

// P23.2: an Open changes neither Held nor Peak; a later Open does not take the peak back.
func TestOpenKeepsHeld(t *testing.T) {
	p := opened(t, "m")
	ok(t, p.Hold("m", 9), p.Hold("m", 4), p.Open("a", 100))
	expectTold(t, p, 4, 9, 110, "a", "m")
	ok(t, p.Hold("a", 5), p.Open("z", 0))
	expectTold(t, p, 9, 9, 110, "a", "m", "z")
	ok(t, p.Hold("a", 6), p.Hold("z", 0))
	expectTold(t, p, 10, 10, 110, "a", "m", "z")
}

// P23.2: asking changes nothing.
func TestAsking(t *testing.T) {
	p := opened(t, "a", "b")
	ok(t, p.Hold("a", 8), p.Hold("b", 1), p.Hold("a", 2))
	for range 10 {
		expectTold(t, p, 3, 9, 20, "a", "b")
	}
}
