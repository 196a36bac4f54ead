package apply_test

import (
	"testing"

	"sapper/api"
	"sapper/flash"
)

// P24.3: ahead of any byte, and ahead of the patch's last byte, behind any other: ErrApplyForm, also without power; it is answered from there on, and the rest is not taken.
func TestFinishTooEarly(t *testing.T) {
	_, _, h, l := base()
	patch := patchOf(h, l[:]...)
	for at := range patch {
		for _, power := range []bool{true, false} {
			f, a := baseTrial(nil).start(t)
			ok(t, a.Feed(patch[:at]))
			if !power {
				away(t, f)
			}
			was, made := toldOf(f), a.Made()
			expect(t, "Finish", a.Finish(), api.ErrApplyForm)
			expect(t, "Feed of the rest", a.Feed(patch[at:]), api.ErrApplyForm)
			expectFailed(t, "Finish", a, api.ErrApplyForm, made)
			if toldOf(f) != was {
				t.Errorf("behind %d bytes: %s has become %s", at, was, toldOf(f))
			}
		}
	}
}

// P24.3: another NewSum: ErrApplySum, ahead of the page writer's End, which does nothing then; also of no bytes, and without power.
func TestFinishAnotherSum(t *testing.T) {
	old, next, h, l := base()
	for bit := range 32 {
		h.NewSum = sumOf(next) ^ 1<<bit
		patch := patchOf(h, l[:]...)
		f, a := baseTrial(patch).start(t)
		ok(t, a.Feed(patch))
		if bit%2 == 1 {
			away(t, f)
		}
		was := toldOf(f)
		expect(t, "Finish", a.Finish(), api.ErrApplySum)
		expectFailed(t, "another sum", a, api.ErrApplySum, 131)
		if toldOf(f) != was {
			t.Errorf("%s has become %s", was, toldOf(f))
		}
	}
	h = headOf(old, nil)
	h.NewSum = 1
	_, a := baseTrial(nil).start(t)
	ok(t, a.Feed(patchOf(h)))
	expect(t, "Finish of none", a.Finish(), api.ErrApplySum)
	expectFailed(t, "Finish of none", a, api.ErrApplySum, 0)
}

// P24.3: what the new image's sum is over is what was made: each byte of it counts, in any window.
func TestFinishEachByte(t *testing.T) {
	old, next, h, l := base()
	h.NewSum = sumOf(next)
	for i := range l {
		for k := 1; k < 3; k++ {
			for at := 5; at < len(l[i].packed[k]); at++ {
				bent := l
				bent[i].packed[k] = turned(l[i].packed[k], at, at%8)
				_, a := baseTrial(nil).start(t)
				ok(t, a.Feed(patchOf(h, bent[:]...)))
				expect(t, "another byte", a.Finish(), api.ErrApplySum)
			}
		}
	}
	// And each old byte that is read.
	for at := range old {
		f, a := baseTrial(nil).start(t)
		p := patchOf(h, l[:]...)
		n := len(headBytes(h))
		ok(t, a.Feed(p[:n]))
		b := filled(turned(old, at, 3), 128)
		ok(t, f.Erase(0, 0), f.Program(0, 0, b[:64]), f.Erase(0, 1), f.Program(0, 1, b[64:]))
		want := api.OK
		if at >= 5 && at < 35 || at >= 80 || at >= 40 && at < 83 {
			want = api.ErrApplySum
		}
		ok(t, a.Feed(p[n:]))
		expect(t, "another old byte", a.Finish(), want)
	}
}

// P24.3: the page writer's End is cut, at its Erase and at its Program: ErrApplyFlash; without power, too; it has not committed, and does not with power either.
func TestFinishCut(t *testing.T) {
	_, next, h, l := base()
	patch := patchOf(h, l[:]...)
	for name, do := range map[string]func(t *testing.T, f *flash.Flash){
		"at the Erase":   func(t *testing.T, f *flash.Flash) { ok(t, f.Cut(1, []byte("torn"))) },
		"at the Program": func(t *testing.T, f *flash.Flash) { ok(t, f.Cut(2, []byte("torn"))) },
		"ahead of it":    away,
		"worn":           func(t *testing.T, f *flash.Flash) { ok(t, f.Erase(1, 2), f.Limit(1)) },
	} {
		f, a := baseTrial(nil).start(t)
		ok(t, a.Feed(patch))
		do(t, f)
		expect(t, name, a.Finish(), api.ErrApplyFlash)
		expectFailed(t, name, a, api.ErrApplyFlash, 131)
		f.Power()
		ok(t, f.Limit(0))
		expectFailed(t, name+", with power", a, api.ErrApplyFlash, 131)
		expectRead(t, f, 1, next[:128])
	}
	// Where no byte is held there is nothing to be done.
	next = counted(0, 128)
	f, a := baseTrial(nil).start(t)
	ok(t, a.Feed(allOf(headOf(counted(0, 100), next), next)))
	away(t, f)
	ok(t, a.Finish())
	if !a.Committed() {
		t.Error("not committed")
	}
	f.Power()
	expectRead(t, f, 1, next)
}

// P24.2 to P24.4: behind Committed: ErrApplyOver by Feed, whatever the bytes, and by Finish, over and over; Err, Committed, Made, Head and the flash stay as they were, also without power.
func TestOver(t *testing.T) {
	_, next, h, l := base()
	patch := patchOf(h, l[:]...)
	f, a := baseTrial(nil).start(t)
	ok(t, a.Feed(patch), a.Finish())
	for range 3 {
		was, told := toldOf(f), answersOf(a)
		for _, b := range [][]byte{nil, {}, {0}, {'S'}, patch, make([]byte, 1000)} {
			expect(t, "Feed", a.Feed(b), api.ErrApplyOver)
			expect(t, "Finish", a.Finish(), api.ErrApplyOver)
			if got, there := a.Head(); !a.Committed() || a.Err() != api.OK || a.Made() != 131 || got != h || !there || answersOf(a) != told {
				t.Errorf("%s, not %s", answersOf(a), told)
			}
			if toldOf(f) != was {
				t.Errorf("%s has become %s", was, toldOf(f))
			}
		}
		f.Power()
		away(t, f)
	}
	f.Power()
	expectRead(t, f, 1, filled(next, 192))
}

// P24.4: Committed and Err at each moment of a patch that goes through: just behind Finish it has committed.
func TestCommitted(t *testing.T) {
	_, _, h, l := base()
	_, a := baseTrial(nil).start(t)
	for _, v := range patchOf(h, l[:]...) {
		if a.Committed() || a.Err() != api.OK {
			t.Fatal(answersOf(a))
		}
		ok(t, a.Feed([]byte{v}))
	}
	if a.Committed() || a.Err() != api.OK {
		t.Fatal(answersOf(a))
	}
	ok(t, a.Finish())
	if !a.Committed() || a.Err() != api.OK {
		t.Fatal(answersOf(a))
	}
}
