package flash_test

import (
	"bytes"
	"math"
	"testing"

	"sapper/api"
)

// P21.5: the chapter's examples 3 and 4.
func TestExamplesOfPower(t *testing.T) {
	f := small(t)
	ok(t, f.Erase(1, 0), f.Program(1, 0, []byte("x")))
	ok(t, f.Cut(2, []byte("zz")), f.Erase(1, 1))
	expect(t, "Program", f.Program(1, 1, []byte("new")), api.ErrFlashPower)
	expectNoRead(t, f, 1, 64, 3, api.ErrFlashPower)
	f.Power()
	expectRead(t, f, 1, 64, []byte{0x7a, 0x7a, 0xff})
	expectPage(t, f, 1, 1, []byte("zz"), false, 1)
	expectLog(t, f, 1, 1, 0, 2, 1, 0, 1, 1, 1, 2, 1, 1)
	expect(t, "Cut(-1)", f.Cut(-1, nil), api.ErrArg)
	expectNoNew(t, "Page 63", api.Shape{Page: 63, Pages: 2}, 0, nil, nil)
}

// P21.5, P21.10: an Erase that is cut, by torn of no bytes, of some and of all: what its page holds, that it is not erased, that it is told and counted, and that no cut is planned any more.
func TestCutErase(t *testing.T) {
	r := rolls(7)
	for area := range 3 {
		for _, n := range []int{0, 1, 2, 63, 64} {
			a, torn := r.data(128), r.data(n)
			f := mustNew(t, api.Shape{Page: 64, Pages: 2}, 0, a, a)
			if area == 2 {
				ok(t, f.Program(2, 1, a[64:]))
			}
			ops := f.Ops()
			ok(t, f.Cut(1, torn))
			expect(t, "Erase", f.Erase(area, 1), api.ErrFlashPower)
			if f.On() || f.Ops() != ops+1 || f.Log()[ops] != (api.Op{Kind: api.OpErase, Area: area, Page: 1}) {
				t.Errorf("On %v, Log %v", f.On(), f.Log())
			}
			if wear, err := f.Wear(area, 1); wear != 1 || err != api.OK {
				t.Errorf("Wear: %d, %v", wear, err)
			}
			f.Power()
			want := append(bytes.Clone(torn), a[64+n:]...)
			expectPage(t, f, area, 1, want, false, 1)
			expect(t, "Program", f.Program(area, 1, nil), api.ErrFlashOrder)
			for range 5 {
				ok(t, f.Erase(area, 1), f.Program(area, 1, torn))
			}
			expectPage(t, f, area, 1, torn, false, 6)
			if area < 2 {
				expectRead(t, f, area, 0, a[:64])
			}
		}
	}
}

// P21.5: an Erase of an erased page that is cut, by torn of no bytes: its bytes are 255, and it is not erased.
func TestCutEraseOfErased(t *testing.T) {
	f := small(t)
	ok(t, f.Cut(2, nil), f.Erase(1, 0))
	expect(t, "Erase", f.Erase(1, 0), api.ErrFlashPower)
	f.Power()
	expectPage(t, f, 1, 0, nil, false, 2)
	expect(t, "Program", f.Program(1, 0, nil), api.ErrFlashOrder)
	ok(t, f.Cut(1, nil))
	expect(t, "the first page of the records", f.Erase(2, 0), api.ErrFlashPower)
	f.Power()
	expectPage(t, f, 2, 0, nil, false, 1)
	expectPage(t, f, 2, 1, nil, true, 0)
	expectLog(t, f, 1, 1, 0, 1, 1, 0, 1, 2, 0)
}

// P21.5: a Program that is cut: none of its own bytes is left, but torn and 255 behind it.
func TestCutProgram(t *testing.T) {
	r := rolls(8)
	for area := range 3 {
		for _, n := range []int{0, 1, 2, 63, 64} {
			a, torn := r.data(128), r.data(n)
			f := mustNew(t, api.Shape{Page: 64, Pages: 2}, 1, a, a)
			ok(t, f.Erase(area, 0), f.Cut(1, torn))
			expect(t, "Program", f.Program(area, 0, r.data(64)), api.ErrFlashPower)
			if f.On() {
				t.Error("it has power")
			}
			f.Power()
			expectPage(t, f, area, 0, torn, false, 1)
			expect(t, "Program", f.Program(area, 0, nil), api.ErrFlashOrder)
			expectLog(t, f, 1, area, 0, 2, area, 0)
			ok(t, f.Erase(area, 0), f.Program(area, 0, a[:64]), f.Erase(area, 1), f.Erase(area, 1))
			expectPage(t, f, area, 0, a[:64], false, 2)
		}
	}
}

// P21.5: the n-th operation is cut, whatever kinds they are, and none ahead of it.
func TestCutAfterSome(t *testing.T) {
	for n := 1; n < 8; n++ {
		f := small(t)
		ok(t, f.Erase(1, 1), f.Cut(n, []byte("torn")))
		for i := 1; i <= 8; i++ {
			want := api.OK
			if i >= n {
				want = api.ErrFlashPower
			}
			if i%2 == 1 {
				expect(t, "Erase", f.Erase(1, 0), want)
			} else {
				expect(t, "Program", f.Program(1, 0, []byte("x")), want)
			}
			if f.On() != (want == api.OK) {
				t.Errorf("behind %d of %d: On %v", i, n, f.On())
			}
		}
		if f.Ops() != n+1 {
			t.Errorf("%d: Ops %d", n, f.Ops())
		}
	}
}

// P21.5: a later Cut takes the place of an earlier one: its number counts from there on, and its bytes are torn; Cut of 0 takes it away; one that is refused changes nothing.
func TestLaterCut(t *testing.T) {
	f := small(t)
	ok(t, f.Cut(1, []byte("first")), f.Cut(3, []byte("2nd")), f.Erase(1, 0), f.Erase(1, 0))
	ok(t, f.Cut(2, []byte("3")), f.Erase(1, 0))
	expect(t, "the second from there on", f.Erase(1, 0), api.ErrFlashPower)
	f.Power()
	expectPage(t, f, 1, 0, []byte("3"), false, 4)

	ok(t, f.Cut(1, []byte("gone")), f.Cut(0, []byte("gone, too")))
	for range 5 {
		ok(t, f.Erase(1, 0))
	}
	ok(t, f.Cut(0, nil), f.Erase(1, 0), f.Cut(2, []byte("stays")), f.Erase(1, 0))
	many := make([]byte, 65)
	expect(t, "below 0", f.Cut(-1, []byte("no")), api.ErrArg)
	expect(t, "the least", f.Cut(math.MinInt, nil), api.ErrArg)
	expect(t, "below 0, too many", f.Cut(-1, many), api.ErrArg)
	expect(t, "too many", f.Cut(5, many), api.ErrArg)
	expect(t, "0, too many", f.Cut(0, many), api.ErrArg)
	expect(t, "the one that stays", f.Program(1, 0, []byte("programmed")), api.ErrFlashPower)
	f.Power()
	expectPage(t, f, 1, 0, []byte("stays"), false, 11)

	ok(t, f.Cut(1, many[:64]), f.Cut(math.MaxInt, many[:64]))
	for range 100 {
		ok(t, f.Erase(1, 1))
	}
}

// P21.5: what is refused is no operation: it is not told, and does not count for a cut; nor does any other call.
func TestRefusedAndCut(t *testing.T) {
	f := small(t)
	ok(t, f.Erase(1, 0), f.Program(1, 0, []byte("x")), f.Limit(1))
	ok(t, f.Cut(1, []byte("torn")))
	expect(t, "no page", f.Erase(0, 2), api.ErrFlashPlace)
	expect(t, "no page", f.Program(3, 0, nil), api.ErrFlashPlace)
	expect(t, "worn", f.Erase(1, 0), api.ErrFlashWorn)
	expect(t, "too many", f.Program(2, 0, make([]byte, 65)), api.ErrArg)
	expect(t, "not erased", f.Program(1, 0, nil), api.ErrFlashOrder)
	f.Power()
	ok(t, f.Turn(), f.Limit(0))
	expectRead(t, f, 1, 0, []byte("x"))
	mustSave(t, f)
	f.Wear(1, 0)
	f.Erased(1, 0)
	if !f.On() {
		t.Fatal("without power")
	}
	expectLog(t, f, 1, 1, 0, 2, 1, 0)
	expect(t, "an operation", f.Erase(1, 0), api.ErrFlashPower)
	f.Power()
	expectPage(t, f, 1, 0, []byte("torn"), false, 2)
	expectLog(t, f, 1, 1, 0, 2, 1, 0, 1, 1, 0)
}

// P21.5, P21.9: what each call answers without power, and that nothing changes by it; Shape, Active, On, Log, Ops, Wear and Limit need none.
func TestWithoutPower(t *testing.T) {
	f := mustNew(t, api.Shape{Page: 64, Pages: 2}, 1, []byte("old"), []byte("new"))
	ok(t, f.Erase(0, 0), f.Erase(0, 1), f.Program(0, 1, []byte("x")), f.Cut(1, []byte("torn")))
	expect(t, "cut", f.Program(0, 0, []byte("y")), api.ErrFlashPower)
	told := toldOf(f)
	for range 3 {
		expect(t, "Turn", f.Turn(), api.ErrFlashPower)
		for _, area := range []int{-1, 0, 1, 2, 3} {
			for _, page := range []int{-1, 0, 1, 2} {
				expectNoRead(t, f, area, page, page, api.ErrFlashPower)
				if is, err := f.Erased(area, page); is || err != api.ErrFlashPower {
					t.Errorf("Erased: %v, %v", is, err)
				}
				expect(t, "Erase", f.Erase(area, page), api.ErrFlashPower)
				expect(t, "Program", f.Program(area, page, nil), api.ErrFlashPower)
				expect(t, "Program of many", f.Program(area, page, make([]byte, 65)), api.ErrFlashPower)
			}
		}
		for _, n := range []int{-1, 0, 1, 2} {
			expect(t, "Cut", f.Cut(n, nil), api.ErrFlashPower)
			expect(t, "Cut, many", f.Cut(n, make([]byte, 65)), api.ErrFlashPower)
		}
		if b, err := f.Save(); b != nil || err != api.ErrFlashPower {
			t.Errorf("Save: %d bytes, %v", len(b), err)
		}
	}
	if f.On() || toldOf(f) != told {
		t.Errorf("On %v, %s, not %s", f.On(), toldOf(f), told)
	}
	if f.Shape() != (api.Shape{Page: 64, Pages: 2}) || f.Active() != 1 || f.Ops() != 4 {
		t.Errorf("%v, %d, %d", f.Shape(), f.Active(), f.Ops())
	}
	expectLog(t, f, 1, 0, 0, 1, 0, 1, 2, 0, 1, 2, 0, 0)
	for area, want := range [][2]int{{1, 1}, {0, 0}, {0, 0}} {
		for page, n := range want {
			if wear, err := f.Wear(area, page); wear != n || err != api.OK {
				t.Errorf("Wear(%d, %d): %d, %v", area, page, wear, err)
			}
		}
	}
	if wear, err := f.Wear(0, 2); wear != 0 || err != api.ErrFlashPlace {
		t.Errorf("Wear of no page: %d, %v", wear, err)
	}
	expect(t, "Limit below 0", f.Limit(-1), api.ErrArg)
	expect(t, "Limit above all", f.Limit(1<<40+1), api.ErrArg)
	ok(t, f.Limit(1))
	f.Power()
	if !f.On() {
		t.Fatal("without power")
	}
	expectPage(t, f, 0, 0, []byte("torn"), false, 1)
	expectPage(t, f, 0, 1, []byte("x"), false, 1)
	expectPage(t, f, 1, 0, []byte("new"), false, 0)
	expect(t, "the limit from without power", f.Erase(0, 0), api.ErrFlashWorn)
	for range 5 {
		ok(t, f.Limit(0), f.Erase(0, 0), f.Turn())
	}
	if f.Active() != 0 {
		t.Error("turned otherwise than five times")
	}
}

// P21.5: Power with power changes nothing, a planned cut stays, too; and power may go again and again.
func TestPowerAgain(t *testing.T) {
	f := small(t)
	ok(t, f.Erase(1, 0), f.Cut(2, []byte("a")))
	was := allOf(f)
	for range 3 {
		f.Power()
	}
	if allOf(f) != was {
		t.Errorf("%s has become %s", was, allOf(f))
	}
	ok(t, f.Program(1, 0, []byte("x")))
	f.Power()
	expect(t, "the second", f.Erase(1, 0), api.ErrFlashPower)
	for i := range 20 {
		f.Power()
		f.Power()
		expectPage(t, f, 1, 0, []byte{byte('a' + i)}, false, i+2)
		ok(t, f.Cut(1, []byte{byte('b' + i)}))
		expect(t, "again", f.Erase(1, 0), api.ErrFlashPower)
	}
}
