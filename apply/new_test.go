package apply_test

import (
	"math"
	"testing"

	"sapper/api"
	"sapper/apply"
	"sapper/flash"
)

// P24.1: a flash that no call made, ahead of a wrong window or look.
func TestNewUnmade(t *testing.T) {
	for name, f := range map[string]*flash.Flash{"nil": nil, "zero": {}, "zero by new": new(flash.Flash)} {
		f.Power()
		for _, c := range [][2]int{{64, 1}, {65536, 32768}, {63, 1}, {64, 0}, {0, 0}, {-1, -1}, {math.MaxInt, math.MinInt}} {
			if a, err := apply.New(f, c[0], c[1]); a != nil || err != api.ErrMade {
				t.Errorf("%s, %v: %v, %v", name, c, a, err)
			}
		}
	}
}

// P24.1: windows and looks at their ends, one below and one above, and at the ends of all numbers; and what they hold.
func TestNewSizes(t *testing.T) {
	f := mustFlash(t, shape(100, 3), 0, []byte("old"))
	was := toldOf(f)
	edges := []int{math.MinInt, math.MinInt + 1, -65536, -64, -1, 0, 1, 2, 63, 64, 65, 100, 4096, 32767, 32768, 32769, 65535, 65536, 65537, 1 << 24, 1 << 32, math.MaxInt - 1, math.MaxInt}
	made := 0
	for _, window := range edges {
		for _, look := range edges {
			a, err := apply.New(f, window, look)
			if window >= 64 && window <= 65536 && look >= 1 && look <= 32768 {
				made++
				if a == nil || err != api.OK || a.Held() != roomOf(100, window, look) || a.Bound() != a.Held() {
					t.Errorf("New(%d, %d): %v, %v: Held %d, Bound %d", window, look, a, err, a.Held(), a.Bound())
				}
				continue
			}
			if a != nil || err != api.ErrApplySize {
				t.Errorf("New(%d, %d): %v, %v", window, look, a, err)
			}
		}
	}
	if made != 9*9 {
		t.Error(made)
	}
	if toldOf(f) != was {
		t.Errorf("%s has become %s", was, toldOf(f))
	}
}

// P24.1, P24.4: one that has taken nothing; over a flash of any shape, also of saved bytes.
func TestNewIsEmpty(t *testing.T) {
	for _, s := range []api.Shape{shape(64, 1), shape(65, 7), shape(4096, 2)} {
		for active := range 2 {
			f := mustFlash(t, s, active, []byte("a"), []byte("b"))
			b, err := f.Save()
			ok(t, err)
			saved, err := flash.Load(b)
			ok(t, err)
			for _, f := range []*flash.Flash{f, saved} {
				was := toldOf(f)
				a := mustNew(t, f, 64, 100)
				h, told := a.Head()
				if a.Committed() || a.Err() != api.OK || told || h != (api.Head{}) || a.Made() != 0 || a.Held() != roomOf(s.Page, 64, 100) {
					t.Errorf("%v: %s", s, answersOf(a))
				}
				ok(t, a.Feed(nil))
				if toldOf(f) != was {
					t.Errorf("%s has become %s", was, toldOf(f))
				}
			}
		}
	}
}

// P24.1: the slot that is active is the old one, the other one the new one, whichever that is, also where the flash turned ahead of New.
func TestNewEitherSlot(t *testing.T) {
	for active := range 2 {
		for turns := range 3 {
			both := [2][]byte{[]byte("slot 0"), []byte("and slot 1")}
			f := mustFlash(t, shape(64, 2), active, both[0], both[1])
			for range turns {
				ok(t, f.Turn())
			}
			old := (active + turns) % 2
			a := mustNew(t, f, 64, 100)
			p := mustGenerate(t, both[old], []byte("slot 0 and slot 1"), usual())
			ok(t, a.Feed(p), a.Finish())
			expectRead(t, f, 1-old, filled([]byte("slot 0 and slot 1"), 64))
			expectRead(t, f, old, filled(both[old], 128))
			if log := f.Log(); len(log) != 2 || log[0] != (api.Op{Kind: api.OpErase, Area: 1 - old}) || log[1] != (api.Op{Kind: api.OpProgram, Area: 1 - old}) {
				t.Errorf("active %d, %d turns: %v", active, turns, log)
			}
			a = mustNew(t, f, 64, 100)
			expect(t, "a patch for the other slot", a.Feed(mustGenerate(t, both[1-old], nil, usual())), api.ErrApplyOld)
		}
	}
}

// P24.1: the slots stay the old and the new one where the flash turns behind New: at any byte of the patch, and ahead of Finish.
func TestStaysWithItsSlots(t *testing.T) {
	old, next, h, l := base()
	patch := patchOf(h, l[:]...)
	for active := range 2 {
		for at := range len(patch) + 1 {
			var slots [2][]byte
			slots[active], slots[1-active] = old, counted(7, 256)
			f := mustFlash(t, shape(64, 4), active, slots[0], slots[1])
			a := mustNew(t, f, 64, 100)
			ok(t, a.Feed(patch[:at]), f.Turn(), a.Feed(patch[at:]), a.Finish())
			expectRead(t, f, active, filled(old, 256))
			expectRead(t, f, 1-active, append(filled(next, 192), slots[1-active][192:]...))
			for _, op := range f.Log() {
				if op.Area != 1-active {
					t.Fatalf("active %d, turned at %d: %v", active, at, f.Log())
				}
			}
		}
	}
}

// P24.1: a flash without power: an applier is made over it; if the power comes back in time, nothing is wrong.
func TestNewWithoutPower(t *testing.T) {
	f := mustFlash(t, shape(64, 2), 0, []byte("old"))
	away(t, f)
	p := mustGenerate(t, []byte("old"), []byte("new"), usual())
	a := mustNew(t, f, 64, 100)
	if a.Held() != roomOf(64, 64, 100) || a.Err() != api.OK {
		t.Error(answersOf(a))
	}
	ok(t, a.Feed(nil), a.Feed(p[:20]))
	f.Power()
	ok(t, a.Feed(p[20:]), a.Finish())
	expectRead(t, f, 1, filled([]byte("new"), 64))

	away(t, f)
	a = mustNew(t, f, 64, 100)
	ok(t, a.Feed(p[:20]))
	expect(t, "the header's last byte", a.Feed(p[20:21]), api.ErrApplyFlash)
	f.Power()
	expectFailed(t, "with power", a, api.ErrApplyFlash, 0)
	away(t, f)
	expect(t, "a wrong window", func() api.Errno { _, err := apply.New(f, 63, 100); return err }(), api.ErrApplySize)
}
