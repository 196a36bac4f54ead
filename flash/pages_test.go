package flash_test

import (
	"math"
	"testing"

	"sapper/api"
)

// P21.3, P21.4, P21.6: the chapter's examples 1 and 2.
func TestExamples(t *testing.T) {
	f := small(t)
	expectRead(t, f, 0, 0, []byte("old\xff"))
	expectNoRead(t, f, 0, 127, 2, api.ErrFlashPlace)
	expectRead(t, f, 2, 0, filled(nil, 128))
	expect(t, "at first", f.Program(1, 0, []byte("x")), api.ErrFlashOrder)
	ok(t, f.Erase(1, 0), f.Program(1, 0, []byte("x")))
	expect(t, "again", f.Program(1, 0, []byte("x")), api.ErrFlashOrder)
	expectLog(t, f, 1, 1, 0, 2, 1, 0)
}

// P21.3: at and n at an area's end and beyond it, below 0, and so great that their sum is no int.
func TestReadPlaces(t *testing.T) {
	r := rolls(3)
	a, b := r.data(192), r.data(192)
	f := mustNew(t, api.Shape{Page: 64, Pages: 3}, 0, a, b)
	ok(t, f.Program(2, 0, a[:64]), f.Program(2, 1, a[64:128]))
	for area, want := range [][]byte{a, b, a[:128]} {
		size := len(want)
		for at := 0; at <= size; at++ {
			for _, n := range []int{0, 1, 2, 63, 64, 65, 127, 128, size - at - 1, size - at} {
				if n >= 0 && at+n <= size {
					expectRead(t, f, area, at, want[at:at+n])
				}
			}
			for _, n := range []int{size - at + 1, size + 1, math.MaxInt - at, math.MaxInt, -1, math.MinInt, math.MinInt + 1} {
				expectNoRead(t, f, area, at, n, api.ErrFlashPlace)
			}
		}
		for _, at := range []int{-1, -64, math.MinInt, math.MinInt + 1, size + 1, size + 64, math.MaxInt - 1, math.MaxInt} {
			for _, n := range []int{0, 1, 2, 64, size, -1, -at, math.MaxInt, math.MinInt} {
				expectNoRead(t, f, area, at, n, api.ErrFlashPlace)
			}
		}
	}
	expectNoRead(t, f, 2, 128, 1, api.ErrFlashPlace)
	expectNoRead(t, f, 2, 191, 1, api.ErrFlashPlace)
	for _, area := range []int{-1, 3, 4, math.MinInt, math.MaxInt} {
		for _, n := range []int{0, 1, 128} {
			expectNoRead(t, f, area, 0, n, api.ErrFlashPlace)
		}
	}
	expectLog(t, f, 2, 2, 0, 2, 2, 1)
}

// P21.3, P21.4, P21.10: the first and last page of each area, one beyond, one below 0, and areas that there are not.
func TestPlaces(t *testing.T) {
	for _, pages := range []int{1, 2, 3, api.MaxPages} {
		s := api.Shape{Page: 64, Pages: pages}
		f := mustNew(t, s, 0, nil, nil)
		for area, n := range pagesOf(s) {
			for i, page := range []int{0, n - 1} {
				if i == 1 && n == 1 {
					continue
				}
				ok(t, f.Erase(area, page), f.Program(area, page, []byte{1, byte(area), byte(page)}))
				expectPage(t, f, area, page, []byte{1, byte(area), byte(page)}, false, 1)
				ok(t, f.Erase(area, page))
				expectPage(t, f, area, page, nil, true, 2)
			}
			was := f.Ops()
			for _, page := range []int{-1, n, n + 1, math.MinInt, math.MaxInt} {
				expectNoPage(t, f, area, page)
			}
			if f.Ops() != was {
				t.Errorf("%d operations, not %d", f.Ops(), was)
			}
		}
		for _, area := range []int{-1, 3, math.MinInt, math.MaxInt} {
			for _, page := range []int{-1, 0, 1, area} {
				expectNoPage(t, f, area, page)
			}
		}
	}
}

// expectNoPage: what is answered where there is no page.
func expectNoPage(t *testing.T, d device, area, page int) {
	t.Helper()
	if is, err := d.Erased(area, page); is || err != api.ErrFlashPlace {
		t.Errorf("Erased(%d, %d): %v, %v", area, page, is, err)
	}
	if n, err := d.Wear(area, page); n != 0 || err != api.ErrFlashPlace {
		t.Errorf("Wear(%d, %d): %d, %v", area, page, n, err)
	}
	expect(t, "Erase", d.Erase(area, page), api.ErrFlashPlace)
	expect(t, "Program", d.Program(area, page, []byte("x")), api.ErrFlashPlace)
}

// P21.4: an Erase leaves 255 in its page alone, whatever stood there, and however often.
func TestErase(t *testing.T) {
	r := rolls(4)
	for area := range 3 {
		for page := range 2 {
			a, b := r.data(128), r.data(128)
			f := mustNew(t, api.Shape{Page: 64, Pages: 2}, 0, a, b)
			for i := range 3 {
				ok(t, f.Erase(area, page))
				expectPage(t, f, area, page, nil, true, i+1)
			}
			for other, fronts := range [][2][]byte{{a[:64], a[64:]}, {b[:64], b[64:]}, {}} {
				for p, front := range fronts {
					if other != area || p != page {
						expectPage(t, f, other, p, front, other == 2, 0)
					}
				}
			}
			expectLog(t, f, 1, area, page, 1, area, page, 1, area, page)
		}
	}
}

// P21.4: no bytes, one less than Page, just Page and one more; a page is programmed once, whatever the bytes are.
func TestProgram(t *testing.T) {
	r := rolls(5)
	for _, size := range []int{64, 65, 4096} {
		for _, n := range []int{0, 1, size - 1, size} {
			for _, b := range [][]byte{r.data(n), filled(nil, n), make([]byte, n)} {
				f := mustNew(t, api.Shape{Page: size, Pages: 1}, 0, r.data(size), nil)
				ok(t, f.Erase(0, 0), f.Program(0, 0, b))
				expectPage(t, f, 0, 0, b, false, 1)
				expect(t, "again", f.Program(0, 0, b), api.ErrFlashOrder)
				expect(t, "with nothing", f.Program(0, 0, nil), api.ErrFlashOrder)
				expectPage(t, f, 0, 0, b, false, 1)
				expectPage(t, f, 1, 0, nil, false, 0)
				expectLog(t, f, 1, 0, 0, 2, 0, 0)
			}
		}
		f := mustNew(t, api.Shape{Page: size, Pages: 1}, 0, nil, nil)
		ok(t, f.Erase(1, 0))
		for _, n := range []int{size + 1, size + 2, 2 * size, 5000} {
			expect(t, "too many", f.Program(1, 0, make([]byte, n)), api.ErrArg)
		}
		expectPage(t, f, 1, 0, nil, true, 1)
		expectLog(t, f, 1, 1, 0)
	}
}

// P21.4, R2: the order of Program's errors, and of Erase's.
func TestOrderOfErrors(t *testing.T) {
	f := small(t)
	many := make([]byte, 65)
	expect(t, "no page, too many", f.Program(0, 2, many), api.ErrFlashPlace)
	expect(t, "no area, too many", f.Program(3, 0, many), api.ErrFlashPlace)
	expect(t, "too many, not erased", f.Program(0, 0, many), api.ErrArg)
	expect(t, "not erased", f.Program(0, 0, many[1:]), api.ErrFlashOrder)
	ok(t, f.Erase(0, 1))
	expect(t, "too many, erased", f.Program(0, 1, many), api.ErrArg)
	ok(t, f.Limit(1))
	expect(t, "no page, worn ones", f.Erase(0, 2), api.ErrFlashPlace)
	expect(t, "worn", f.Erase(0, 1), api.ErrFlashWorn)
	expectLog(t, f, 1, 0, 1)
	ok(t, f.Cut(1, nil))
	expect(t, "cut", f.Program(0, 1, nil), api.ErrFlashPower)
	for area := -1; area <= 3; area++ {
		for page := -1; page <= 2; page++ {
			expect(t, "Program without power", f.Program(area, page, many), api.ErrFlashPower)
			expect(t, "Erase without power", f.Erase(area, page), api.ErrFlashPower)
		}
	}
	expectLog(t, f, 1, 0, 1, 2, 0, 1)
}

// P21.10: Wear counts the Erases of a page alone, and neither Programs nor those that were refused.
func TestWear(t *testing.T) {
	f := mustNew(t, api.Shape{Page: 64, Pages: 3}, 0, nil, nil)
	for area, n := range pagesOf(f.Shape()) {
		for page := range n {
			for range 10*area + page {
				ok(t, f.Erase(area, page), f.Program(area, page, []byte("x")))
				expect(t, "again", f.Program(area, page, nil), api.ErrFlashOrder)
			}
		}
	}
	ok(t, f.Limit(1), f.Turn())
	for area, n := range pagesOf(f.Shape()) {
		for page := range n {
			if wear, err := f.Wear(area, page); wear != 10*area+page || err != api.OK {
				t.Errorf("Wear(%d, %d): %d, %v", area, page, wear, err)
			}
			if 10*area+page > 0 {
				expect(t, "worn", f.Erase(area, page), api.ErrFlashWorn)
			}
			if wear, err := f.Wear(area, page); wear != 10*area+page || err != api.OK {
				t.Errorf("and then: Wear(%d, %d): %d, %v", area, page, wear, err)
			}
		}
	}
}

// P21.10: a limit of 1, of more, of the greatest and of none; one below what a page is worn already.
func TestLimit(t *testing.T) {
	f := small(t)
	for limit := 1; limit < 6; limit++ {
		ok(t, f.Limit(limit), f.Erase(1, 0))
		expect(t, "worn", f.Erase(1, 0), api.ErrFlashWorn)
	}
	ok(t, f.Limit(2), f.Erase(1, 1), f.Program(1, 1, []byte("x")))
	expect(t, "worn by five", f.Erase(1, 0), api.ErrFlashWorn)
	ok(t, f.Erase(1, 1), f.Program(1, 1, []byte("y")))
	expect(t, "worn by two", f.Erase(1, 1), api.ErrFlashWorn)
	expectPage(t, f, 1, 1, []byte("y"), false, 2)
	ops := f.Ops()
	for _, n := range []int{-1, -2, 1<<40 + 1, math.MinInt, math.MaxInt} {
		expect(t, "Limit", f.Limit(n), api.ErrArg)
	}
	expect(t, "as it was", f.Erase(1, 1), api.ErrFlashWorn)
	if f.Ops() != ops {
		t.Errorf("%d operations, not %d", f.Ops(), ops)
	}
	ok(t, f.Limit(0), f.Erase(1, 1), f.Limit(3))
	expect(t, "worn by three", f.Erase(1, 1), api.ErrFlashWorn)
	ok(t, f.Limit(1<<40), f.Erase(1, 1), f.Erase(1, 0))
	expectPage(t, f, 1, 0, nil, true, 6)
	expectPage(t, f, 1, 1, nil, true, 4)
	ok(t, f.Limit(6))
	expect(t, "worn by six", f.Erase(1, 0), api.ErrFlashWorn)
	ok(t, f.Program(1, 0, []byte("worn pages are programmed")))
}

// P21.6: many operations, all of them told in order.
func TestLog(t *testing.T) {
	f := mustNew(t, api.Shape{Page: 64, Pages: 3}, 0, nil, nil)
	r := rolls(6)
	var want []int
	for range 3000 {
		area, page := r.below(3), r.below(2)
		if r.below(2) == 0 {
			ok(t, f.Erase(area, page))
			want = append(want, 1, area, page)
		} else if f.Program(area, page, nil) == api.OK {
			want = append(want, 2, area, page)
		}
	}
	if len(want) < 6000 {
		t.Error(len(want))
	}
	expectLog(t, f, want...)
}
