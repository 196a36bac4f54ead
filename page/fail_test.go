package page_test

import (
	"slices"
	"testing"

	"sapper/api"
	"sapper/flash"
)

// expectFailed: what a writer answers that has failed: none, some, a page of and too many bytes, and End, over and over; and what it tells.
func expectFailed(t *testing.T, f *flash.Flash, w writer, want api.Errno, written, pages int) {
	t.Helper()
	was := toldOf(f)
	for range 2 {
		for _, n := range []int{0, 1, 63, 64, 65, 128, 5000, 1 << 20} {
			expect(t, "Write of a failed one", w.Write(make([]byte, n)), want)
		}
		expect(t, "End of a failed one", w.End(), want)
		expectTold(t, w, written, pages)
	}
	if toldOf(f) != was {
		t.Errorf("%s has become %s", was, toldOf(f))
	}
}

// P22.2 to P22.4: the chapter's example 3.
func TestExampleOfPower(t *testing.T) {
	f, w := small(t)
	ok(t, f.Cut(2, nil))
	expect(t, "Write of 64", w.Write(make([]byte, 64)), api.ErrFlashPower)
	expectTold(t, w, 0, 0)
	expect(t, "Write of none", w.Write(nil), api.ErrFlashPower)
}

// IT FAILS: the power is cut at any operation, an Erase or a Program, of the first page or of a later one, in Writes of single bytes, of a page, of several pages and of all at once, and in End: that call answers ErrFlashPower, and so do all others from there on, also with power; Written is what it was ahead of that call, Pages how many pages are whole.
func TestCutAtAnyOperation(t *testing.T) {
	r := rolls(9)
	for _, size := range []int{1, 63, 64, 65, 128, 200, 255, 256} {
		for _, step := range []int{1, 10, 63, 64, 65, 130, 256} {
			all := (size + 63) / 64 * 2
			for n := 1; n <= all; n++ {
				f := mustFlash(t, shape(64, 4), 0)
				w := mustNew(t, f)
				b, torn := r.data(size), r.data(r.below(65))
				ok(t, f.Cut(n, torn))
				written, err := 0, api.OK
				for part := range slices.Chunk(b, step) {
					if err = w.Write(part); err != api.OK {
						break
					}
					written += len(part)
				}
				if err == api.OK {
					err = w.End()
				}
				expect(t, "the call that is cut", err, api.ErrFlashPower)
				// The cut one is the operation of the page that is whole by a certain byte: the Write with that one is the one that failed.
				page := (n - 1) / 2
				want := min(size, page*64+63) / step * step
				if page*64+64 > size {
					want = size
				}
				if written != want {
					t.Errorf("%d bytes by %d, cut at %d: failed behind %d, not %d", size, step, n, written, want)
				}
				if f.On() || !slices.Equal(f.Log(), inOrder(1, n)) {
					t.Errorf("%d bytes by %d, cut at %d: %v, %v", size, step, n, f.On(), f.Log())
				}
				expectFailed(t, f, w, api.ErrFlashPower, want, page)
				f.Power()
				expectFailed(t, f, w, api.ErrFlashPower, want, page)
				expectRead(t, f, 1, 0, b[:page*64])
				left := filled(torn, 64)
				expectRead(t, f, 1, page*64, left)
			}
		}
	}
}

// IT FAILS: in the midst of one Write of several pages: the pages ahead of it stay, those behind it are not touched.
func TestCutInTheMidst(t *testing.T) {
	r := rolls(10)
	old, b := r.data(320), r.data(320)
	for n := 1; n <= 10; n++ {
		f := mustFlash(t, shape(64, 5), 1, old, old)
		w := mustNew(t, f)
		ok(t, w.Write(nil), f.Cut(n, []byte("torn")))
		expect(t, "Write", w.Write(b), api.ErrFlashPower)
		expectTold(t, w, 0, (n-1)/2)
		f.Power()
		at := (n - 1) / 2 * 64
		was := slices.Clone(old[at : at+64])
		if n%2 == 0 {
			was = filled(nil, 64)
		}
		copy(was, "torn")
		want := append(slices.Clone(b[:at]), was...)
		expectRead(t, f, 0, 0, append(want, old[at+64:]...))
		expectRead(t, f, 1, 0, old)
		expectFailed(t, f, w, api.ErrFlashPower, 0, (n-1)/2)
	}
}

// IT FAILS: in End, which has not ended then: it answers the flash's error again, not ErrPageOver.
func TestCutInEnd(t *testing.T) {
	for n := 1; n <= 2; n++ {
		f, w := small(t)
		ok(t, w.Write(make([]byte, 64)), w.Write(make([]byte, 10)), f.Cut(n, nil))
		expect(t, "End", w.End(), api.ErrFlashPower)
		expectTold(t, w, 74, 1)
		expectFailed(t, f, w, api.ErrFlashPower, 74, 1)
		f.Power()
		expectFailed(t, f, w, api.ErrFlashPower, 74, 1)
	}
}

// IT FAILS by the writer's own operations alone: a cut that another one's operation took leaves no trace, if the power comes back ahead of the writer's next page.
func TestCutOfAnother(t *testing.T) {
	f, w := small(t)
	ok(t, w.Write([]byte("held")), f.Cut(1, nil))
	expect(t, "Erase", f.Erase(0, 0), api.ErrFlashPower)
	ok(t, w.Write([]byte(" on")))
	f.Power()
	ok(t, w.End())
	expectTold(t, w, 7, 1)
	expectRead(t, f, 1, 0, filled([]byte("held on"), 64))
}

// IT FAILS: a cut that is planned beyond the writer's last operation does not reach it.
func TestCutLater(t *testing.T) {
	f, w := small(t)
	ok(t, f.Cut(5, nil), w.Write(make([]byte, 128)), w.End())
	expectTold(t, w, 128, 2)
	expect(t, "Erase", f.Erase(2, 0), api.ErrFlashPower)
	expect(t, "End", w.End(), api.ErrPageOver)
}

// IT FAILS: a page that is worn: ErrFlashWorn, also where it may be erased once more later; the page is not touched.
func TestWorn(t *testing.T) {
	for worn := range 3 {
		f := mustFlash(t, shape(64, 3), 0)
		ok(t, f.Erase(1, worn), f.Erase(1, worn), f.Program(1, worn, []byte("worn")), f.Limit(2))
		ops := f.Ops()
		w := mustNew(t, f)
		for range worn {
			ok(t, w.Write(make([]byte, 64)))
		}
		ok(t, w.Write(make([]byte, 63)))
		expect(t, "Write", w.Write(make([]byte, 1)), api.ErrFlashWorn)
		expectFailed(t, f, w, api.ErrFlashWorn, worn*64+63, worn)
		if got := f.Log()[ops:]; !slices.Equal(got, inOrder(1, 2*worn)) {
			t.Errorf("Log %v", got)
		}
		expectRead(t, f, 1, worn*64, filled([]byte("worn"), 64))
		ok(t, f.Limit(0))
		expectFailed(t, f, w, api.ErrFlashWorn, worn*64+63, worn)
	}
}

// IT FAILS: a worn page in the midst of one Write, and in End.
func TestWornInTheMidst(t *testing.T) {
	f := mustFlash(t, shape(64, 3), 0)
	ok(t, f.Erase(1, 1), f.Limit(1))
	w := mustNew(t, f)
	expect(t, "Write", w.Write(make([]byte, 192)), api.ErrFlashWorn)
	expectFailed(t, f, w, api.ErrFlashWorn, 0, 1)
	expectLog(t, f, 1, 1, 1, 1, 1, 0, 2, 1, 0)

	f = mustFlash(t, shape(64, 3), 0)
	ok(t, f.Erase(1, 1), f.Limit(1))
	w = mustNew(t, f)
	ok(t, w.Write(make([]byte, 100)))
	expect(t, "End", w.End(), api.ErrFlashWorn)
	expectFailed(t, f, w, api.ErrFlashWorn, 100, 1)
}

// IT FAILS with the first error, and stays with it, whatever the flash would say later.
func TestFirstErrorStays(t *testing.T) {
	f, w := small(t)
	ok(t, f.Cut(1, nil))
	expect(t, "cut", w.Write(make([]byte, 64)), api.ErrFlashPower)
	f.Power()
	ok(t, f.Limit(1))
	expectFailed(t, f, w, api.ErrFlashPower, 0, 0)

	f, w = small(t)
	ok(t, f.Erase(1, 0), f.Limit(1))
	expect(t, "worn", w.Write(make([]byte, 64)), api.ErrFlashWorn)
	ok(t, f.Cut(1, nil))
	expect(t, "Erase", f.Erase(2, 0), api.ErrFlashPower)
	expectFailed(t, f, w, api.ErrFlashWorn, 0, 0)
}

// P22.1: a writer behind one that failed begins at page 0, and goes through.
func TestNewBehindFailed(t *testing.T) {
	r := rolls(11)
	b := r.data(150)
	for n := 1; n <= 6; n++ {
		f := mustFlash(t, shape(64, 3), 0)
		w := mustNew(t, f)
		ok(t, f.Cut(n, r.data(64)))
		if err := w.Write(b); err == api.OK {
			expect(t, "End", w.End(), api.ErrFlashPower)
		}
		f.Power()
		ops, next := f.Ops(), mustNew(t, f)
		ok(t, next.Write(b), next.End())
		expectTold(t, next, 150, 3)
		expectRead(t, f, 1, 0, filled(b, 192))
		if got := f.Log()[ops:]; !slices.Equal(got, inOrder(1, 6)) {
			t.Errorf("Log %v", got)
		}
	}
}
