package page_test

import (
	"bytes"
	"testing"

	"sapper/api"
	"sapper/flash"
	"sapper/page"
)

// P22.1: a flash that no call made.
func TestNewUnmade(t *testing.T) {
	for name, f := range map[string]*flash.Flash{"nil": nil, "zero": {}, "zero by new": new(flash.Flash)} {
		f.Power()
		if w, err := page.New(f); w != nil || err != api.ErrMade {
			t.Errorf("%s: %v, %v", name, w, err)
		}
	}
}

// P22.1: it has taken, programmed and holds nothing, and New does nothing with the flash, also one of saved bytes.
func TestNewIsEmpty(t *testing.T) {
	r := rolls(1)
	for range 50 {
		s, active, slots := r.setup()
		f := mustFlash(t, s, active, slots[0], slots[1])
		if r.below(2) == 0 {
			b, _ := f.Save()
			f, _ = flash.Load(b)
		}
		was := toldOf(f)
		w := mustNew(t, f)
		expectTold(t, w, 0, 0)
		ok(t, w.End())
		expectTold(t, w, 0, 0)
		if toldOf(f) != was {
			t.Errorf("%s has become %s", was, toldOf(f))
		}
	}
}

// P22.1: the slot that is not active, whichever that is, also where the flash turned ahead of New.
func TestNewEitherSlot(t *testing.T) {
	a, b, b1 := bytes.Repeat([]byte("a"), 128), bytes.Repeat([]byte("b"), 128), bytes.Repeat([]byte("c"), 65)
	for active := range 2 {
		for turns := range 3 {
			f := mustFlash(t, shape(64, 2), active, a, b)
			for range turns {
				ok(t, f.Turn())
			}
			slot := 1 - (active+turns)%2
			w := mustNew(t, f)
			ok(t, w.Write(b1), w.End())
			expectLog(t, f, 1, slot, 0, 2, slot, 0, 1, slot, 1, 2, slot, 1)
			expectRead(t, f, slot, 0, filled(b1, 128))
			expectRead(t, f, 1-slot, 0, [][]byte{a, b}[1-slot])
		}
	}
}

// P22.1: the writer stays with its slot where the flash turns behind New, once and back; a new one goes to the other.
func TestStaysWithItsSlot(t *testing.T) {
	r := rolls(2)
	for active := range 2 {
		f := mustFlash(t, shape(64, 3), active)
		w := mustNew(t, f)
		b := r.data(192)
		ok(t, f.Turn(), w.Write(b[:70]))
		other := mustNew(t, f)
		ok(t, w.Write(b[70:130]), f.Turn(), w.Write(b[130:]), f.Turn(), w.End())
		expectRead(t, f, 1-active, 0, b)
		ok(t, f.Turn(), other.Write(b[:1]), other.End())
		slot := 1 - active
		expectLog(t, f, 1, slot, 0, 2, slot, 0, 1, slot, 1, 2, slot, 1, 1, slot, 2, 2, slot, 2, 1, active, 0, 2, active, 0)
		expectRead(t, f, active, 0, filled(b[:1], 192))
	}
}

// P22.1, P22.2, P22.3: a flash without power: a writer is made over it; it takes bytes as long as no page is whole, and ends with none; if the power comes back in time, nothing is wrong.
func TestNewWithoutPower(t *testing.T) {
	off := func() *flash.Flash {
		f := mustFlash(t, shape(64, 2), 0)
		ok(t, f.Cut(1, nil))
		expect(t, "Erase", f.Erase(2, 0), api.ErrFlashPower)
		return f
	}
	f := off()
	w := mustNew(t, f)
	ok(t, w.Write(nil), w.Write(make([]byte, 63)), w.Write(nil))
	expectTold(t, w, 63, 0)
	expect(t, "too many", w.Write(make([]byte, 66)), api.ErrPageFull)
	expect(t, "a whole page", w.Write(make([]byte, 1)), api.ErrFlashPower)
	expectTold(t, w, 63, 0)
	f.Power()
	expect(t, "with power", w.Write(nil), api.ErrFlashPower)
	expectLog(t, f, 1, 2, 0)

	f = off()
	w = mustNew(t, f)
	ok(t, w.End())
	expect(t, "behind End", w.Write(nil), api.ErrPageOver)

	f = off()
	w = mustNew(t, f)
	ok(t, w.Write(make([]byte, 1)))
	expect(t, "End with a byte held", w.End(), api.ErrFlashPower)
	expectTold(t, w, 1, 0)

	f = off()
	w = mustNew(t, f)
	ok(t, w.Write([]byte("early")))
	f.Power()
	ok(t, w.Write([]byte(" and late")), w.End())
	expectTold(t, w, 14, 1)
	expectRead(t, f, 1, 0, filled([]byte("early and late"), 64))
	expectLog(t, f, 1, 2, 0, 1, 1, 0, 2, 1, 0)
}

// P22.4: Room is a page, for several shapes, whatever was done.
func TestRoom(t *testing.T) {
	for _, s := range []api.Shape{shape(64, 1), shape(64, 4096), shape(65, 3), shape(100, 2), shape(512, 8), shape(4095, 1), shape(4096, 4096)} {
		f := mustFlash(t, s, 0)
		w := mustNew(t, f)
		room := func(name string) {
			t.Helper()
			if w.Room() != s.Page {
				t.Errorf("%v, %s: Room %d", s, name, w.Room())
			}
		}
		room("at first")
		ok(t, w.Write(make([]byte, s.Page-1)))
		room("all but a page")
		expect(t, "too many", w.Write(make([]byte, s.Page*(s.Pages-1)+2)), api.ErrPageFull)
		room("refused")
		ok(t, w.Write(make([]byte, 1)))
		room("a page")
		ok(t, w.End())
		room("ended")
		w = mustNew(t, f)
		ok(t, f.Cut(1, nil))
		expect(t, "cut", w.Write(make([]byte, s.Page)), api.ErrFlashPower)
		room("failed")
	}
}

// R8: memory is made once: a Write that fills no page makes none.
func TestMadeOnce(t *testing.T) {
	f := mustFlash(t, shape(4096, 2), 0)
	w := mustNew(t, f)
	b := []byte("few")
	if n := testing.AllocsPerRun(1000, func() { w.Write(b) }); n != 0 {
		t.Errorf("%v", n)
	}
	expectTold(t, w, 3*1001, 0)
}
