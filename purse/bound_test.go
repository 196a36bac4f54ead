package purse_test

import (
	"math"
	"testing"

	"sapper/api"
	"sapper/cutter"
	"sapper/parse"
	"sapper/purse"
	"sapper/swell"
)

// boundByWords: P23.3's sum, of arguments that may be, with a swell of any cap.
func boundByWords(t *testing.T, page, window, look, most int) int {
	t.Helper()
	s, err := swell.New(look, most)
	ok(t, err)
	sum := page
	sum += window
	sum += window
	sum += cutter.Most(window)
	sum += s.Room()
	sum += parse.New().Room()
	return sum + 64
}

// The chapter's example 3.
func TestExampleOfBound(t *testing.T) {
	if n := purse.Bound(63, 64, 1); n != 0 {
		t.Errorf("%d", n)
	}
	if n := purse.Bound(64, 64, 1); n <= 0 {
		t.Errorf("%d", n)
	}
}

// P23.3: the least, the greatest and one between them, written out: by chapters 5, 6, 8, 11, 17 and 19 it is page, 8 times window, look, and 3963 more.
func TestBoundWrittenOut(t *testing.T) {
	for _, c := range []struct{ page, window, look, want int }{
		{64, 64, 1, 4540},
		{256, 1024, 4096, 16507},
		{4096, 65536, 32768, 565115},
	} {
		if n := purse.Bound(c.page, c.window, c.look); n != c.want {
			t.Errorf("Bound(%d, %d, %d) = %d, not %d", c.page, c.window, c.look, n, c.want)
		}
	}
}

// P23.3: all rows of three of which each is at an end, one beyond it, or far beyond it: 0, if one of them lies outside.
func TestBoundEnds(t *testing.T) {
	inside, outside := 0, 0
	around := func(least, most int) []int {
		return []int{math.MinInt, -least, -1, 0, least - 1, least, least + 1, most - 1, most, most + 1, 2 * most, math.MaxInt}
	}
	for _, page := range around(64, api.MaxPage) {
		for _, window := range around(api.MinWindow, api.MaxWindow) {
			for _, look := range around(1, api.MaxLook) {
				want := 0
				if 64 <= page && page <= 4096 && 64 <= window && window <= 65536 && 1 <= look && look <= 32768 {
					want = boundByWords(t, page, window, look, 0)
					inside++
				} else {
					outside++
				}
				if n := purse.Bound(page, window, look); n != want {
					t.Fatalf("Bound(%d, %d, %d) = %d, not %d", page, window, look, n, want)
				}
			}
		}
	}
	if inside != 4*4*4 || outside != 12*12*12-4*4*4 {
		t.Error(inside, outside)
	}
}

// drawn: arguments of Bound that may be, at the ends often.
func (r *rolls) drawn() [3]int {
	return [3]int{
		r.of(64, 65, 4095, 4096, 64+r.below(4033), 64+r.below(4033)),
		r.of(64, 65, 65535, 65536, 64+r.below(65473), 64+r.below(65473)),
		r.of(1, 2, 32767, 32768, 1+r.below(32768), 1+r.below(32768)),
	}
}

// P23.3: drawn arguments against the sum, whatever cap the swell has.
func TestBoundOfDrawn(t *testing.T) {
	r := rolls(31)
	for range 2000 {
		x := r.drawn()
		most := r.of(0, 1, 1000, api.MaxCap)
		if n, want := purse.Bound(x[0], x[1], x[2]), boundByWords(t, x[0], x[1], x[2], most); n != want {
			t.Fatalf("Bound(%v) = %d, not %d", x, n, want)
		}
	}
}

// P23.5: one argument raised by one, and by more, the others kept: it is more.
func TestBoundRises(t *testing.T) {
	r := rolls(32)
	ends := [3]int{4096, 65536, 32768}
	raised := [3]int{}
	for range 2000 {
		x := r.drawn()
		was := purse.Bound(x[0], x[1], x[2])
		for i := range x {
			for _, by := range []int{1, 2, 1 + r.below(ends[i]), ends[i] - x[i]} {
				y := x
				y[i] += by
				if by == 0 || y[i] > ends[i] {
					continue
				}
				raised[i]++
				if n := purse.Bound(y[0], y[1], y[2]); n <= was {
					t.Fatalf("Bound(%v) = %d, Bound(%v) = %d", x, was, y, n)
				}
			}
		}
	}
	if min(raised[0], raised[1], raised[2]) < 2000 {
		t.Error(raised)
	}
}

// P23.5: each page, each window and each look in a row: each is more than the one ahead.
func TestBoundRisesAllAlong(t *testing.T) {
	last := 0
	for page := 64; page <= api.MaxPage; page++ {
		n := purse.Bound(page, 100, 10)
		if n <= last {
			t.Fatalf("page %d: %d behind %d", page, n, last)
		}
		last = n
	}
	last = 0
	for window := api.MinWindow; window <= api.MaxWindow; window += 7 {
		n := purse.Bound(70, window, 10)
		if n <= last {
			t.Fatalf("window %d: %d behind %d", window, n, last)
		}
		last = n
	}
	last = 0
	for look := 1; look <= api.MaxLook; look += 7 {
		n := purse.Bound(70, 100, look)
		if n <= last {
			t.Fatalf("look %d: %d behind %d", look, n, last)
		}
		last = n
	}
}

// P23.5: it hangs on its arguments alone: the same ones again, between others, wrong ones, and purses that are in use.
func TestBoundAgain(t *testing.T) {
	r := rolls(33)
	first := map[[3]int]int{}
	var asked [][3]int
	p, m := mustNew(t), &model{}
	for range 1500 {
		if len(asked) == 0 || r.below(2) == 0 {
			x := r.drawn()
			asked = append(asked, x)
			first[x] = purse.Bound(x[0], x[1], x[2])
		}
		r.step(t, p, m)
		purse.Bound(r.of(-1, 0, 63, 4097), r.of(64, 0), r.of(1, 0))
		x := asked[r.below(len(asked))]
		if n := purse.Bound(x[0], x[1], x[2]); n != first[x] {
			t.Fatalf("Bound(%v) = %d, and %d", x, first[x], n)
		}
	}
}
