package apply_test

import (
	"fmt"
	"slices"
	"testing"

	"sapper/api"
	"sapper/flash"
)

// outcome: what came of a patch that was fed into an applier in pieces of at most so many bytes, and then finished: the error, which call answered it (-1: Finish), and how many bytes the applier had made.
func outcome(a applier, patch []byte, step int) (err api.Errno, at, made int) {
	at = 0
	for part := range slices.Chunk(patch, step) {
		if err = a.Feed(part); err != api.OK {
			return err, at, a.Made()
		}
		at += len(part)
	}
	return a.Finish(), -1, a.Made()
}

// P24.2, P24.3, G4: the power is cut at every operation, an Erase or a Program, of the first page or of a later one, in Feed or in the page writer's End: ErrApplyFlash there and from there on, with power, too; not committed; the windows made are those whose bytes were all written. The old slot is as it was, and a new applier behind that commits.
func TestCutAtEveryOperation(t *testing.T) {
	old, next, h, l := base()
	patch := patchOf(h, l[:]...)
	ends := []int{0, 64, 128, 131}
	for _, s := range []api.Shape{shape(64, 4), shape(65, 3), shape(100, 2), shape(131, 1), shape(200, 1)} {
		pages := (131 + s.Page - 1) / s.Page
		for n := 1; n <= 2*pages; n++ {
			for _, step := range []int{1, 50, 1000} {
				x := trial{shape: s, old: old, window: 64, look: 100, patch: patch}
				f, a := x.start(t)
				torn := counted(n, s.Page)
				ok(t, f.Cut(n, torn))
				err, at, made := outcome(a, patch, step)
				name := fmt.Sprintf("%v, cut at %d, by %d", s, n, step)
				expect(t, name, err, api.ErrApplyFlash)
				// The operation comes with the last byte of its page, or with End.
				whole := (n-1)/2*s.Page + s.Page
				want := 131
				if whole <= 131 {
					for _, end := range ends {
						if end < whole {
							want = end
						}
					}
				}
				if made != want || (at < 0) != (whole > 131) {
					t.Errorf("%s: at %d, Made %d, not %d", name, at, made, want)
				}
				if f.On() || !slices.Equal(f.Log(), inOrder(1, n)) {
					t.Errorf("%s: %v, %v", name, f.On(), f.Log())
				}
				expectFailed(t, name, a, api.ErrApplyFlash, want)
				f.Power()
				expectFailed(t, name, a, api.ErrApplyFlash, want)
				expectRead(t, f, 0, filled(old, s.Page*s.Pages))
				if !slices.Equal(f.Log(), inOrder(1, n)) {
					t.Errorf("%s: %v", name, f.Log())
				}
				again := mustNew(t, f, 64, 100)
				ok(t, again.Feed(patch), again.Finish())
				if log := f.Log()[n:]; !again.Committed() || !slices.Equal(log, inOrder(1, 2*pages)) {
					t.Errorf("%s, again: %v", name, log)
				}
				expectRead(t, f, 1, next)
				expectRead(t, f, 0, filled(old, s.Page*s.Pages))
			}
		}
	}
}

// P24.2, P24.3: an Erase that is refused, since its page is worn, at any page: ErrApplyFlash, also where it may be erased once more later.
func TestWorn(t *testing.T) {
	_, _, h, l := base()
	patch := patchOf(h, l[:]...)
	for worn, made := range []int{0, 64, 131} {
		x := baseTrial(patch)
		f, a := x.start(t)
		ok(t, f.Erase(1, worn), f.Limit(1))
		ops := f.Ops()
		err, at, got := outcome(a, patch, 1)
		expect(t, "worn", err, api.ErrApplyFlash)
		if got != made || (at < 0) != (worn == 2) || !slices.Equal(f.Log()[ops:], inOrder(1, 2*worn)) {
			t.Errorf("worn page %d: at %d, Made %d, %v", worn, at, got, f.Log())
		}
		expectFailed(t, "worn", a, api.ErrApplyFlash, made)
		ok(t, f.Limit(0))
		expectFailed(t, "worn, with no limit any more", a, api.ErrApplyFlash, made)
	}
}

// P24.2: a window of several pages whose writing is refused in its midst: the pages ahead stay, and it is not made.
func TestRefusedInTheMidst(t *testing.T) {
	old := counted(0, 100)
	next := counted(50, 300)
	h := headOf(old, next)
	h.Window = 200
	patch := patchOf(h, plain(0, controlOf(0, 200, 0), nil, next[:200]), plain(0, controlOf(0, 100, 0), nil, next[200:]))
	for n := 1; n <= 10; n++ {
		f := mustFlash(t, shape(64, 5), 1, counted(9, 320), old)
		a := mustNew(t, f, 200, 100)
		ok(t, f.Cut(n, []byte("torn")))
		err, at, made := outcome(a, patch, 1000)
		want := 0
		if n > 6 {
			want = 200
		}
		if n > 8 {
			want = 300
		}
		if err != api.ErrApplyFlash || made != want || (at < 0) != (n > 8) {
			t.Errorf("cut at %d: %v at %d, Made %d, not %d", n, err, at, made, want)
		}
		f.Power()
		expectRead(t, f, 0, next[:(n-1)/2*64])
		expectRead(t, f, 1, filled(old, 320))
		if !slices.Equal(f.Log(), inOrder(0, n)) {
			t.Errorf("cut at %d: %v", n, f.Log())
		}
	}
}

// P24.2, P24.3: the power goes by an operation that stands outside of the applier, ahead of any byte, and comes back behind it or not: what needs no flash goes on; ErrApplyFlash where the flash is asked first.
func TestPowerOutside(t *testing.T) {
	old, next, h, l := base()
	patch := patchOf(h, l[:]...)
	head := len(headBytes(h))
	first := placeOf(h, l[:], 0) + len(slices.Concat(l[0].packed[:]...))
	second := placeOf(h, l[:], 1) + len(slices.Concat(l[1].packed[:]...))
	third := placeOf(h, l[:], 2) + len(slices.Concat(l[2].packed[:]...))
	asked := []int{head, first, second, third}
	for at := range len(patch) + 1 {
		f, a := baseTrial(nil).start(t)
		ok(t, a.Feed(patch[:at]))
		away(t, f)
		want := -1
		for _, n := range slices.Backward(asked) {
			if n > at {
				want = n - 1
			}
		}
		got := -1
		for i := at; i < len(patch) && got < 0; i++ {
			if err := a.Feed(patch[i : i+1]); err != api.OK {
				expect(t, "without power", err, api.ErrApplyFlash)
				got = i
			}
		}
		if got != want {
			t.Errorf("away at %d: refused at %d, not %d", at, got, want)
		}
		if got < 0 {
			expect(t, "Finish without power", a.Finish(), api.ErrApplyFlash)
		}
		// And for a while only: nothing is asked between.
		f, a = baseTrial(nil).start(t)
		ok(t, a.Feed(patch[:at]))
		away(t, f)
		till := len(patch)
		if want >= 0 {
			till = want
		}
		ok(t, a.Feed(patch[at:till]))
		f.Power()
		ok(t, a.Feed(patch[till:]), a.Finish())
		expectRead(t, f, 1, next)
		expectRead(t, f, 0, filled(old, 256))
	}
}

// P24.8: the applier's operations are its own slot's, whatever else is done with the flash between: other pages' operations leave it as it was.
func TestOthersBetween(t *testing.T) {
	old, next, h, l := base()
	patch := patchOf(h, l[:]...)
	f, a := baseTrial(nil).start(t)
	do := []func(f *flash.Flash) api.Errno{
		func(f *flash.Flash) api.Errno { return f.Erase(2, 0) },
		func(f *flash.Flash) api.Errno { return f.Program(2, 0, []byte("a record")) },
		func(f *flash.Flash) api.Errno { return f.Turn() },
		func(f *flash.Flash) api.Errno { return f.Erase(1, 3) },
		func(f *flash.Flash) api.Errno { return f.Erase(0, 3) },
	}
	var own []api.Op
	for i, v := range patch {
		ok(t, do[i%len(do)](f))
		from := f.Ops()
		ok(t, a.Feed([]byte{v}))
		own = append(own, f.Log()[from:]...)
	}
	from := f.Ops()
	ok(t, a.Finish())
	own = append(own, f.Log()[from:]...)
	if !slices.Equal(own, inOrder(1, 6)) {
		t.Error(own)
	}
	expectRead(t, f, 1, next)
	expectRead(t, f, 0, old)
}
