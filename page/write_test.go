package page_test

import (
	"bytes"
	"slices"
	"testing"

	"sapper/api"
)

// P22.2 to P22.4: the chapter's example 1.
func TestExampleOfPages(t *testing.T) {
	f, w := small(t)
	ok(t, w.Write(bytes.Repeat([]byte{6}, 63)))
	expectLog(t, f)
	expectTold(t, w, 63, 0)
	ok(t, w.Write([]byte{7, 8}))
	expectLog(t, f, 1, 1, 0, 2, 1, 0)
	expectTold(t, w, 65, 1)
	ok(t, w.End())
	expectLog(t, f, 1, 1, 0, 2, 1, 0, 1, 1, 1, 2, 1, 1)
	expectTold(t, w, 65, 2)
	expectRead(t, f, 1, 0, append(bytes.Repeat([]byte{6}, 63), 7))
	expectRead(t, f, 1, 64, append([]byte{8}, bytes.Repeat([]byte{255}, 63)...))
	expect(t, "Write", w.Write([]byte{1}), api.ErrPageOver)
	expect(t, "End", w.End(), api.ErrPageOver)
}

// P22.2, P22.3: the chapter's examples 2 and 4.
func TestExamplesOfFull(t *testing.T) {
	f, w := small(t)
	expect(t, "129 bytes", w.Write(make([]byte, 129)), api.ErrPageFull)
	expectLog(t, f)
	ok(t, w.Write(make([]byte, 128)))
	expectLog(t, f, 1, 1, 0, 2, 1, 0, 1, 1, 1, 2, 1, 1)
	ok(t, w.End())
	expectLog(t, f, 1, 1, 0, 2, 1, 0, 1, 1, 1, 2, 1, 1)
	f, w = small(t)
	ok(t, w.End())
	expectLog(t, f)
}

// P22.2, P22.4: a first Write of so many bytes, at the edges of a page: which pages are there behind it, and what is told.
func TestFirstWrite(t *testing.T) {
	r := rolls(3)
	for _, s := range []struct{ page, pages int }{{64, 5}, {65, 4}, {4096, 4}} {
		for _, n := range []int{0, 1, s.page - 1, s.page, s.page + 1, 2*s.page - 1, 2 * s.page, 2*s.page + 1, 3 * s.page} {
			old, b := r.data(s.page*s.pages), r.data(n)
			f := mustFlash(t, shape(s.page, s.pages), 1, old, old)
			w := mustNew(t, f)
			ok(t, w.Write(b))
			whole := n / s.page
			expectTold(t, w, n, whole)
			if !slices.Equal(f.Log(), inOrder(0, 2*whole)) {
				t.Errorf("%d bytes: Log %v", n, f.Log())
			}
			// What makes no whole page is held, and the flash has not heard of it.
			expectRead(t, f, 0, 0, append(slices.Clone(b[:whole*s.page]), old[whole*s.page:]...))
			expectRead(t, f, 1, 0, old)
		}
	}
}

// P22.2: a page is erased and programmed as soon as its last byte is there, not ahead of it, where bytes come one by one.
func TestByteByByte(t *testing.T) {
	r := rolls(4)
	f := mustFlash(t, shape(65, 3), 0)
	w := mustNew(t, f)
	b := r.data(195)
	for i := range b {
		ok(t, w.Write(b[i:i+1]))
		expectTold(t, w, i+1, (i+1)/65)
		if !slices.Equal(f.Log(), inOrder(1, (i+1)/65*2)) {
			t.Fatalf("behind %d bytes: %v", i+1, f.Log())
		}
	}
	expectRead(t, f, 1, 0, b)
}

// P22.2, P22.4: the slot made full, in one Write and in many; one byte more is refused, none is not.
func TestFull(t *testing.T) {
	r := rolls(5)
	for _, s := range []struct{ page, pages int }{{64, 1}, {64, 2}, {65, 3}, {100, 7}} {
		size := s.page * s.pages
		for _, step := range []int{size, size - 1, s.page, s.page - 1, s.page + 1, 2 * s.page, 10, 1} {
			f := mustFlash(t, shape(s.page, s.pages), 0)
			w := mustNew(t, f)
			b := r.data(size)
			for part := range slices.Chunk(b, step) {
				ok(t, w.Write(part))
			}
			expectTold(t, w, size, s.pages)
			was := toldOf(f)
			expect(t, "one more", w.Write([]byte{1}), api.ErrPageFull)
			expect(t, "many more", w.Write(make([]byte, size)), api.ErrPageFull)
			ok(t, w.Write(nil))
			expectTold(t, w, size, s.pages)
			ok(t, w.End())
			expectTold(t, w, size, s.pages)
			if toldOf(f) != was || !slices.Equal(f.Log(), inOrder(1, 2*s.pages)) {
				t.Errorf("%v: %v", s, f.Log())
			}
			expectRead(t, f, 1, 0, b)
		}
	}
}

// P22.2: a Write of more bytes than are left, ahead of others and behind them: nothing has changed, what was held is still held, and what fits may be written.
func TestRefused(t *testing.T) {
	r := rolls(6)
	for first := range 193 {
		f := mustFlash(t, shape(64, 3), 0)
		w := mustNew(t, f)
		b := r.data(192)
		expect(t, "at first", w.Write(r.data(193)), api.ErrPageFull)
		expectTold(t, w, 0, 0)
		ok(t, w.Write(b[:first]))
		was := toldOf(f)
		for _, n := range []int{193 - first, 200 - first, 193, 1000} {
			expect(t, "too many", w.Write(r.data(n)), api.ErrPageFull)
			expectTold(t, w, first, first/64)
		}
		if toldOf(f) != was {
			t.Errorf("behind %d bytes: %s has become %s", first, was, toldOf(f))
		}
		ok(t, w.Write(b[first:]))
		expect(t, "one more", w.Write(r.data(1)), api.ErrPageFull)
		ok(t, w.End())
		expectTold(t, w, 192, 3)
		expectRead(t, f, 1, 0, b)
		if !slices.Equal(f.Log(), inOrder(1, 6)) {
			t.Errorf("behind %d bytes: %v", first, f.Log())
		}
	}
}

// P22.2: behind a Write that was refused End ends with what was taken.
func TestRefusedThenEnd(t *testing.T) {
	f, w := small(t)
	ok(t, w.Write([]byte("few")))
	expect(t, "too many", w.Write(make([]byte, 126)), api.ErrPageFull)
	ok(t, w.End())
	expectTold(t, w, 3, 1)
	expectRead(t, f, 1, 0, filled([]byte("few"), 64))
	expectLog(t, f, 1, 1, 0, 2, 1, 0)
}

// P22.2: behind End: ErrPageOver, ahead of ErrPageFull, for none, some and too many bytes; nothing changes.
func TestOver(t *testing.T) {
	for _, n := range []int{0, 1, 63, 64, 65, 127, 128} {
		f, w := small(t)
		ok(t, w.Write(make([]byte, n)), w.End())
		was, pages := toldOf(f), (n+63)/64
		for _, more := range []int{0, 1, 64, 128 - n, 129 - n, 129, 1000} {
			expect(t, "Write", w.Write(make([]byte, more)), api.ErrPageOver)
			expect(t, "End", w.End(), api.ErrPageOver)
			expectTold(t, w, n, pages)
		}
		if toldOf(f) != was {
			t.Errorf("%d bytes: %s has become %s", n, was, toldOf(f))
		}
	}
}

// P22.2: ErrPageOver and ErrPageFull stand ahead of what the flash would say: without power, too.
func TestErrorsAheadOfFlash(t *testing.T) {
	f, w := small(t)
	over := mustNew(t, f)
	ok(t, over.End(), f.Cut(1, nil))
	expect(t, "Erase", f.Erase(2, 0), api.ErrFlashPower)
	expect(t, "too many", w.Write(make([]byte, 129)), api.ErrPageFull)
	expect(t, "over", over.Write(make([]byte, 64)), api.ErrPageOver)
	expect(t, "over, too many", over.Write(make([]byte, 129)), api.ErrPageOver)
	expect(t, "over", over.End(), api.ErrPageOver)
	f.Power()
	ok(t, w.Write(make([]byte, 128)))
}

// P22.3: End with so many bytes held, behind no, one and several whole pages: one page more, if bytes are held, with 255 behind them.
func TestEnd(t *testing.T) {
	r := rolls(7)
	for _, s := range []struct{ page, pages int }{{64, 1}, {64, 3}, {65, 3}} {
		for n := range s.page*s.pages + 1 {
			old, b := r.data(s.page*s.pages), r.data(n)
			f := mustFlash(t, shape(s.page, s.pages), 0, old, old)
			w := mustNew(t, f)
			ok(t, w.Write(b), w.End())
			pages := (n + s.page - 1) / s.page
			expectTold(t, w, n, pages)
			if !slices.Equal(f.Log(), inOrder(1, 2*pages)) {
				t.Errorf("%d bytes: Log %v", n, f.Log())
			}
			expectRead(t, f, 1, 0, append(filled(b, pages*s.page), old[pages*s.page:]...))
			expectRead(t, f, 0, 0, old)
			was := toldOf(f)
			expect(t, "End again", w.End(), api.ErrPageOver)
			expect(t, "and again", w.End(), api.ErrPageOver)
			expectTold(t, w, n, pages)
			if toldOf(f) != was {
				t.Errorf("%d bytes: %s has become %s", n, was, toldOf(f))
			}
		}
	}
}

// P22.3: what the page at hand held ahead of it is not in the last page.
func TestEndKeepsNothing(t *testing.T) {
	f, w := small(t)
	ok(t, w.Write(bytes.Repeat([]byte{9}, 64)), w.Write([]byte{1, 2}), w.End())
	expectRead(t, f, 1, 64, filled([]byte{1, 2}, 64))
}

// P22.2, P22.5: the greatest slot, whole: in one Write, and in pieces of no page's size.
func TestGreatest(t *testing.T) {
	r := rolls(8)
	size := api.MaxPage * api.MaxPages
	b := bytes.Repeat(r.data(4099), size/4099+1)[:size]
	for _, step := range []int{size, 65537} {
		f := mustFlash(t, shape(api.MaxPage, api.MaxPages), 1)
		w := mustNew(t, f)
		expect(t, "one more", w.Write(make([]byte, size+1)), api.ErrPageFull)
		for part := range slices.Chunk(b, step) {
			ok(t, w.Write(part))
		}
		expect(t, "one more", w.Write([]byte{1}), api.ErrPageFull)
		ok(t, w.End())
		expectTold(t, w, size, api.MaxPages)
		if got, err := f.Read(0, 0, size); !bytes.Equal(got, b) || err != api.OK {
			t.Errorf("pieces of %d: %d bytes, %v", step, len(got), err)
		}
		if !slices.Equal(f.Log(), inOrder(0, 2*api.MaxPages)) {
			t.Errorf("pieces of %d: another log", step)
		}
	}
}
