package flash_test

import (
	"bytes"
	"math"
	"testing"

	"sapper/api"
	"sapper/flash"
)

// expectNoNew: a device that may not be.
func expectNoNew(t *testing.T, name string, s api.Shape, active int, first, second []byte) {
	t.Helper()
	if f, err := flash.New(s, active, [2][]byte{first, second}); f != nil || err != api.ErrFlashSetup {
		t.Errorf("%s: %v, %v", name, f, err)
	}
}

// P21.1: Page and Pages at their edges and beyond them.
func TestShapes(t *testing.T) {
	for _, page := range []int{64, 65, 4095, api.MaxPage} {
		for _, pages := range []int{1, 2, 4095, api.MaxPages} {
			s := api.Shape{Page: page, Pages: pages}
			if f := mustNew(t, s, 0, nil, nil); f.Shape() != s {
				t.Errorf("%v: Shape %v", s, f.Shape())
			}
		}
	}
	ends := []int{math.MinInt, math.MinInt + 1, -4096, -64, -1, 0, 4097, 1 << 32, math.MaxInt - 1, math.MaxInt}
	for _, v := range append(ends, 1, 63) {
		expectNoNew(t, "Page", api.Shape{Page: v, Pages: 1}, 0, nil, nil)
		expectNoNew(t, "both", api.Shape{Page: v, Pages: v}, 0, nil, nil)
	}
	for _, v := range ends {
		expectNoNew(t, "Pages", api.Shape{Page: 64, Pages: v}, 0, nil, nil)
	}
	expectNoNew(t, "none", api.Shape{}, 0, nil, nil)
}

// P21.1, P21.2: the active slot, 0 or 1.
func TestActive(t *testing.T) {
	s := api.Shape{Page: 64, Pages: 2}
	for active := range 2 {
		if f := mustNew(t, s, active, nil, nil); f.Active() != active {
			t.Errorf("%d: Active %d", active, f.Active())
		}
	}
	for _, v := range []int{math.MinInt, -2, -1, 2, 3, math.MaxInt} {
		expectNoNew(t, "active", s, v, nil, nil)
	}
}

// P21.1: as many bytes as a slot has, one less and one more, in the first and in the second.
func TestSlots(t *testing.T) {
	r := rolls(1)
	for _, s := range []api.Shape{{Page: 64, Pages: 1}, {Page: 64, Pages: 2}, {Page: 65, Pages: 3}, {Page: 4096, Pages: 1}} {
		size := s.Page * s.Pages
		for _, n := range []int{0, 1, s.Page - 1, s.Page, min(size, s.Page+1), size - 1, size} {
			a, b := r.data(n), r.data(size-n)
			f := mustNew(t, s, 1, a, b)
			expectRead(t, f, 0, 0, filled(a, size))
			expectRead(t, f, 1, 0, filled(b, size))
		}
		many := make([]byte, size+1)
		expectNoNew(t, "first", s, 0, many, nil)
		expectNoNew(t, "second", s, 0, nil, many)
		expectNoNew(t, "both", s, 0, many, many)
		expectNoNew(t, "the other one whole", s, 0, many[1:], many)
		mustNew(t, s, 0, many[1:], many[1:])
	}
}

// P21.1: what New leaves: power, an empty log, no wear, no limit, no cut; slots whose pages are not erased, even where all their bytes are 255, and two erased pages behind them.
func TestNew(t *testing.T) {
	f := mustNew(t, api.Shape{Page: 64, Pages: 3}, 1, filled([]byte("ab"), 70), bytes.Repeat([]byte{255}, 192))
	if !f.On() {
		t.Error("without power")
	}
	expectLog(t, f)
	expectPage(t, f, 0, 0, []byte("ab"), false, 0)
	for page := range 3 {
		expectPage(t, f, 1, page, nil, false, 0)
		expect(t, "Program", f.Program(0, page, nil), api.ErrFlashOrder)
		expect(t, "Program", f.Program(1, page, nil), api.ErrFlashOrder)
	}
	expectPage(t, f, 0, 2, nil, false, 0)
	for page := range 2 {
		expectPage(t, f, 2, page, nil, true, 0)
		ok(t, f.Program(2, page, []byte("rec")))
		expectPage(t, f, 2, page, []byte("rec"), false, 0)
	}
	for range 50 {
		ok(t, f.Erase(0, 0))
	}
	if !f.On() || f.Ops() != 52 {
		t.Errorf("On %v, Ops %d", f.On(), f.Ops())
	}
}

// P21.1: drawn devices, against the chapter's words.
func TestNewOfDrawn(t *testing.T) {
	r := rolls(2)
	refused := 0
	for range 600 {
		s, active, slots := r.setup()
		switch r.below(12) {
		case 0:
			s.Page = r.far()
		case 1:
			s.Pages = r.far()
		case 2:
			active = r.far()
		case 3:
			slots[r.below(2)] = r.data(s.Page*s.Pages + 1 + r.below(3))
		}
		f, err := flash.New(s, active, slots)
		m, want := modelNew(s, active, slots)
		if err != want || (f == nil) != (m == nil) {
			t.Fatalf("New(%v, %d, %d, %d bytes): %v, not %v", s, active, len(slots[0]), len(slots[1]), err, want)
		}
		if f == nil {
			refused++
		} else if s.Page*s.Pages < 1000 && allOf(f) != allOf(m) {
			t.Fatalf("New(%v, %d, %x): %s, not %s", s, active, slots, allOf(f), allOf(m))
		}
	}
	if refused < 100 {
		t.Error(refused)
	}
}

// P21.2: Turn, again and again; it is no operation, and nothing else changes by it; without power it is refused.
func TestTurn(t *testing.T) {
	for active := range 2 {
		f := mustNew(t, api.Shape{Page: 64, Pages: 1}, active, []byte("a"), []byte("b"))
		ok(t, f.Cut(1, nil))
		for i := range 5 {
			if f.Active() != (active+i)%2 {
				t.Errorf("behind %d Turns: %d", i, f.Active())
			}
			ok(t, f.Turn())
		}
		expectLog(t, f)
		expectPage(t, f, 0, 0, []byte("a"), false, 0)
		expectPage(t, f, 1, 0, []byte("b"), false, 0)
		expect(t, "the cut", f.Erase(0, 0), api.ErrFlashPower)
		was := f.Active()
		expect(t, "Turn", f.Turn(), api.ErrFlashPower)
		if f.Active() != was {
			t.Error("turned without power")
		}
		f.Power()
		ok(t, f.Turn())
		if f.Active() == was {
			t.Error("not turned")
		}
	}
}
