package maker_test

import (
	"bytes"
	"slices"
	"testing"

	"sapper/api"
	"sapper/frame"
	"sapper/maker"
)

// P20.9: the chapter's example 4, and patches from and to no bytes.
func TestUndoOfFew(t *testing.T) {
	o := usual()
	long := bytes.Repeat([]byte("abcdefg"), 30)
	for _, c := range [][2][]byte{{[]byte("a"), []byte("b")}, {nil, nil}, {nil, []byte("abc")}, {[]byte("abc"), nil}, {nil, long}, {long, nil}, {long, long[3:]}} {
		p := mustGenerate(t, c[0], c[1], o)
		u := mustUndo(t, p, c[0], o)
		expectMeaning(t, "undone", u, c[1], c[0], api.OK)
		holdUndo(t, p, c[0], o)
		h, _, err := frame.Decode(u)
		if want := (api.Head{Old: len(c[1]), New: len(c[0]), OldSum: sumOf(c[1]), NewSum: sumOf(c[0]), Window: 64, Look: 100}); h != want || err != api.OK {
			t.Errorf("%v, %v, not %v", h, err, want)
		}
	}
}

// P20.9: the way back of the base, written out: each old byte from the least place that it came to; those that came nowhere are copied.
func TestUndoWrittenOut(t *testing.T) {
	o := usual()
	o.Window, o.Press.Look.Window = 70, 9
	u := mustUndo(t, basePatch(asIs), baseOld(), o)
	want := api.Head{Old: 70, New: 10, OldSum: sumOf(baseNew()), NewSum: sumOf(baseOld()), Window: 70, Look: 9}
	// a and b at 60 and 61; c at 69; d, e, f at 0, 1, 2, of which e and f had risen; g and h nowhere; i and j at 62 and 63.
	windows := []api.Window{{Pos: 60, Edit: api.Edit{
		Steps: steps(2, 0, 7, 1, 0, -70, 3, 2, 59, 2, 0, 0),
		Diff:  []byte{0, 0, 0, 0, 255, 254, 0, 0},
		Extra: []byte("gh"),
	}}}
	if h, l, err := frame.Decode(u); h != want || !sameWindows(l, windows) || err != api.OK {
		t.Errorf("%v, %v, %v, not %v, %v", h, l, err, want, windows)
	}
}

// P20.9, R2: Meaning's errors, each with options that may be and with others; then Options'.
func TestErrorsOfUndo(t *testing.T) {
	old := baseOld()
	good := basePatch(asIs)
	turned := slices.Clone(good)
	turned[len(turned)-1] ^= 1
	other := slices.Clone(old)
	other[9]--
	bad := usual()
	bad.Press.Look.Chain = -1
	for _, c := range []struct {
		name       string
		patch, old []byte
		want       api.Errno
	}{
		{"no patch", nil, old, api.ErrFrameForm},
		{"bytes that are no patch", good[1:], old, api.ErrFrameForm},
		{"another sum of the patch", turned, old, api.ErrFrameSum},
		{"an old image of another size", good, old[1:], api.ErrMakeOld},
		{"no old image", good, nil, api.ErrMakeOld},
		{"an old image with another sum", good, other, api.ErrMakeOld},
		{"a reading outside", basePatch(func(_ *api.Head, l []api.Window) { l[1].Pos = 10 }), old, api.ErrMakeRead},
		{"another NewSum", basePatch(func(h *api.Head, _ []api.Window) { h.NewSum++ }), old, api.ErrMakeSum},
		{"a twin of the old image", good, twin(old), api.ErrMakeSum},
	} {
		for _, o := range []api.Options{usual(), bad} {
			if u, err := maker.Undo(c.patch, c.old, o); u != nil || err != c.want {
				t.Errorf("%s: % x, %v, not %v", c.name, u, err, c.want)
			}
		}
	}
	for _, c := range choices() {
		want := api.ErrMakeOption
		if c.may {
			want = api.OK
		}
		if err := holdUndo(t, good, old, c.o); err != want {
			t.Errorf("%s: %v: %v, not %v", c.name, c.o, err, want)
		}
	}
}

// P20.9: drawn patches of all kinds, over the image that they are for, and over others.
func TestUndoOfDrawn(t *testing.T) {
	r := rolls(6)
	count := map[api.Errno]int{}
	for range 800 {
		old := r.image()
		p, _ := r.either(t, old)
		o := r.options()
		switch r.below(8) {
		case 0:
			p = r.strange(t, old)
		case 1:
			p = r.outside(old)
		case 2:
			old = r.bent(old)
		case 3:
			if len(old) > 4 {
				old = twin(old)
			}
		case 4:
			o.Window = r.of(0, 63, 65537)
		}
		count[holdUndo(t, p, old, o)]++
	}
	for _, err := range []api.Errno{api.OK, api.ErrFrameForm, api.ErrMakeOld, api.ErrMakeRead, api.ErrMakeSum, api.ErrMakeOption} {
		if count[err] < 15 {
			t.Errorf("%v", count)
		}
	}
}
