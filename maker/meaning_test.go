package maker_test

import (
	"bytes"
	"slices"
	"testing"

	"sapper/api"
	"sapper/frame"
	"sapper/maker"
)

// baseOld: the image that the base is for.
func baseOld() []byte { return []byte("abcdefghij") }

// baseNew: what it makes: 64 bytes and 6.
func baseNew() []byte {
	return slices.Concat([]byte("dfh"), bytes.Repeat([]byte("-"), 57), []byte("abij"), []byte("j++abc"))
}

// base: a patch that no Generate makes: the first window seeks back and to the old image's end; the second one begins with the last byte, copies ahead of where it goes on, and ends with a Seek of nothing.
func base() (api.Head, []api.Window) {
	old, next := baseOld(), baseNew()
	h := api.Head{Old: len(old), New: len(next), OldSum: sumOf(old), NewSum: sumOf(next), Window: 64, Look: 100}
	return h, []api.Window{
		{Pos: 3, Edit: api.Edit{Steps: steps(3, 57, -6, 2, 0, 6, 2, 0, 0), Diff: []byte{0, 1, 2, 0, 0, 0, 0}, Extra: bytes.Repeat([]byte("-"), 57)}},
		{Pos: 9, Edit: api.Edit{Steps: steps(1, 1, -1, 0, 1, -9, 1, 0, 0, 2, 0, 0), Diff: make([]byte, 4), Extra: []byte("++")}},
	}
}

// basePatch: its bytes, with what is done to its header and windows.
func basePatch(change func(h *api.Head, l []api.Window)) []byte {
	h, l := base()
	change(&h, l)
	return patchOf(h, usual().Press, l...)
}

// asIs: the base as it is.
func asIs(*api.Head, []api.Window) {}

// P20.3: the chapter's examples 1 and 5, and the base.
func TestMeaningOfFew(t *testing.T) {
	o := usual()
	expectMeaning(t, "none to none", mustGenerate(t, nil, nil, o), nil, nil, api.OK)
	expectMeaning(t, "a to b", mustGenerate(t, []byte("a"), []byte("b"), o), []byte("a"), []byte("b"), api.OK)
	expectMeaning(t, "a to b, of c", mustGenerate(t, []byte("a"), []byte("b"), o), []byte("c"), nil, api.ErrMakeOld)
	expectMeaning(t, "a to none", mustGenerate(t, []byte("a"), nil, o), []byte("a"), nil, api.OK)
	expectMeaning(t, "none to a", mustGenerate(t, nil, []byte("a"), o), nil, []byte("a"), api.OK)
	expectMeaning(t, "the base", basePatch(asIs), baseOld(), baseNew(), api.OK)
}

// P20.3: each of the errors by itself.
func TestErrorsOfMeaning(t *testing.T) {
	old := baseOld()
	good := basePatch(asIs)
	turned := slices.Clone(good)
	turned[len(turned)-1] ^= 1
	other := slices.Clone(old)
	other[4] ^= 1
	for _, c := range []struct {
		name       string
		patch, old []byte
		want       api.Errno
	}{
		{"no bytes", nil, old, api.ErrFrameForm},
		{"bytes that are no patch", []byte("SAPR"), old, api.ErrFrameForm},
		{"a byte less", good[:len(good)-1], old, api.ErrFrameForm},
		{"a byte more", append(slices.Clone(good), 0), old, api.ErrFrameForm},
		{"another sum of the patch", turned, old, api.ErrFrameSum},
		{"no old image", good, nil, api.ErrMakeOld},
		{"an old image of a byte less", good, old[:9], api.ErrMakeOld},
		{"an old image of a byte more", good, append(slices.Clone(old), 0), api.ErrMakeOld},
		{"an old image with another sum", good, other, api.ErrMakeOld},
		{"another Old", basePatch(func(h *api.Head, _ []api.Window) { h.Old = 11 }), old, api.ErrMakeOld},
		{"another OldSum", basePatch(func(h *api.Head, _ []api.Window) { h.OldSum ^= 1 << 31 }), old, api.ErrMakeOld},
		{"another NewSum", basePatch(func(h *api.Head, _ []api.Window) { h.NewSum ^= 1 }), old, api.ErrMakeSum},
		{"another byte of a diff", basePatch(func(_ *api.Head, l []api.Window) { l[0].Edit.Diff[6] = 1 }), old, api.ErrMakeSum},
		{"another byte of an extra", basePatch(func(_ *api.Head, l []api.Window) { l[1].Edit.Extra[0]++ }), old, api.ErrMakeSum},
		{"a reading outside", basePatch(func(_ *api.Head, l []api.Window) { l[1].Pos = 10 }), old, api.ErrMakeRead},
	} {
		expectMeaning(t, c.name, c.patch, c.old, nil, c.want)
		holdMeaning(t, c.patch, c.old)
	}
	// Of nothing, and with another sum of it.
	h := api.Head{Window: 64, Look: 100, NewSum: 1}
	expectMeaning(t, "none, another NewSum", patchOf(h, usual().Press), nil, nil, api.ErrMakeSum)
	h = api.Head{Window: 64, Look: 100, OldSum: 1}
	expectMeaning(t, "none, another OldSum", patchOf(h, usual().Press), nil, nil, api.ErrMakeOld)
}

// P20.3: an image of the same size and sum is taken for the old one; its bytes then make others, or it is another image to another one.
func TestMeaningOfTwin(t *testing.T) {
	old := baseOld()
	other := twin(old)
	if bytes.Equal(old, other) || len(old) != len(other) || sumOf(old) != sumOf(other) {
		t.Fatalf("%q, %q", old, other)
	}
	expectMeaning(t, "the base", basePatch(asIs), other, nil, api.ErrMakeSum)
	expectMeaning(t, "itself", mustGenerate(t, old, old, usual()), other, other, api.OK)
}

// P20.3: windows that read at the old image's end, beyond it, and where nothing is read; a patch's form allows all that lies in some image.
func TestReadingOutside(t *testing.T) {
	const far = 1 << 24
	old := baseOld()
	for _, c := range []struct {
		name   string
		window api.Window
		want   api.Errno
	}{
		{"all of it", window(0, 10, 0, 0), api.OK},
		{"up to its end", window(7, 3, 0, 0), api.OK},
		{"a byte beyond its end", window(7, 4, 0, 0), api.ErrMakeRead},
		{"all, and a byte beyond", window(0, 11, 0, 0), api.ErrMakeRead},
		{"from its end on", window(10, 1, 0, 0), api.ErrMakeRead},
		{"nothing, from its end on", window(10, 0, 1, 0), api.OK},
		{"nothing, from beyond its end on", window(11, 0, 1, 0), api.ErrFrameForm},
		{"a Seek to its end", window(3, 1, 0, 6, 0, 1, 0), api.OK},
		{"a Seek beyond its end, and a reading", window(3, 1, 0, 7, 1, 0, 0), api.ErrMakeRead},
		{"a Seek beyond its end, behind which nothing is read", window(3, 1, 0, 7, 0, 1, 0), api.ErrMakeRead},
		{"a Seek beyond its end, and back", window(3, 1, 0, 7, 0, 1, -8, 1, 0, 0), api.ErrMakeRead},
		{"a Seek to its end, and back", window(3, 1, 0, 6, 0, 1, -8, 1, 0, 0), api.OK},
		{"a Seek to 0", window(3, 1, 0, -4, 1, 0, 0), api.OK},
		{"a Seek below 0", window(3, 1, 0, -5, 1, 0, 0), api.ErrFrameForm},
		{"a Seek below 0, behind which nothing is read", window(3, 1, 0, -5, 0, 1, 0), api.ErrFrameForm},
		{"far beyond its end", window(3, 1, 0, far-5, 1, 0, 0), api.ErrMakeRead},
		{"beyond all images", window(3, 1, 0, far-4, 1, 0, 0), api.ErrFrameForm},
	} {
		h := api.Head{Old: 10, OldSum: sumOf(old), Window: 64, Look: 100}
		h.New = len(c.window.Edit.Diff) + len(c.window.Edit.Extra)
		var made []byte
		if c.want == api.OK {
			made = bytesOf(old, originsOf([]api.Window{c.window}))
		}
		h.NewSum = sumOf(made)
		patch := patchOf(h, usual().Press, c.window)
		expectMeaning(t, c.name, patch, old, made, c.want)
		holdMeaning(t, patch, old)
		// Behind a window that may be it is the same.
		first := window(0, 10, 54, 0)
		h.New += 64
		if c.want == api.OK {
			made = slices.Concat(bytesOf(old, originsOf([]api.Window{first})), made)
		}
		h.NewSum = sumOf(made)
		expectMeaning(t, "second: "+c.name, patchOf(h, usual().Press, first, c.window), old, made, c.want)
	}
}

// P20.3, R2: which error comes first, with each thing wrong in turn and with all others.
func TestOrderOfMeaning(t *testing.T) {
	right := baseOld()
	other := slices.Clone(right)
	other[0]++
	olds := [][]byte{right, other, right[:9], nil, twin(right)}
	for _, read := range []bool{false, true} {
		for _, sum := range []bool{false, true} {
			patch := basePatch(func(h *api.Head, l []api.Window) {
				if read {
					l[1].Pos = 10
				}
				if sum {
					h.NewSum++
				}
			})
			form := patch[:len(patch)-1]
			turned := slices.Clone(patch)
			turned[len(patch)-1]++
			for i, old := range olds {
				want := api.OK
				switch {
				case i > 0 && i < 4:
					want = api.ErrMakeOld
				case read:
					want = api.ErrMakeRead
				case sum || i == 4:
					want = api.ErrMakeSum
				}
				if err := holdMeaning(t, patch, old); err != want {
					t.Errorf("reading outside %v, another sum %v, over %q: %v, not %v", read, sum, old, err, want)
				}
				if err := holdMeaning(t, form, old); err != api.ErrFrameForm {
					t.Errorf("no patch, over %q: %v", old, err)
				}
				if err := holdMeaning(t, turned, old); err != api.ErrFrameSum {
					t.Errorf("another sum of the patch, over %q: %v", old, err)
				}
				if err := holdUndo(t, patch, old, api.Options{}); err != want && (want != api.OK || err != api.ErrMakeOption) {
					t.Errorf("Undo, reading outside %v, another sum %v, over %q: %v, not %v", read, sum, old, err, want)
				}
			}
		}
	}
}

// P20.3: a patch with each byte turned, in all ways, means nothing, and its error is that of Decode.
func TestTurned(t *testing.T) {
	old := baseOld()
	patches := [][]byte{basePatch(asIs), mustGenerate(t, old, []byte("abcdefghij0"), usual())}
	for _, b := range patches {
		for at := range b {
			for mask := 1; mask < 256; mask++ {
				bad := slices.Clone(b)
				bad[at] ^= byte(mask)
				_, _, want := frame.Decode(bad)
				got, err := maker.Meaning(bad, old)
				if want == api.OK || got != nil || err != want {
					t.Fatalf("byte %d of % x turned by %x: %q, %v, not %v", at, b, mask, got, err, want)
				}
			}
		}
	}
}

// outside: a patch for that image, whose windows mostly read outside of it though its form may be.
func (r *rolls) outside(old []byte) []byte {
	o := r.options()
	h := api.Head{Old: len(old), New: 1 + r.below(200), OldSum: sumOf(old), NewSum: r.word(), Window: o.Window, Look: o.Press.Look.Window}
	var l []api.Window
	for _, n := range sizesOf(h) {
		w := r.window(h.Old+r.below(20), n)
		if w.Pos > h.Old {
			w = r.window(h.Old, n)
		}
		l = append(l, w)
	}
	return patchOf(h, o.Press, l...)
}

// strange: a patch that is not as it should be, for that image: bent, with right sums or not, with another NewSum, with readings outside; or drawn bytes.
func (r *rolls) strange(t *testing.T, old []byte) []byte {
	t.Helper()
	p, _ := r.either(t, old)
	h, _, err := frame.Decode(p)
	if err != api.OK {
		t.Fatalf("Decode(% x): %v", p, err)
	}
	switch r.below(6) {
	case 0:
		return r.bent(p)
	case 1:
		head := headBytes(h)
		return sealed(head, r.bent(p[len(head):len(p)-4]))
	case 2:
		other := h
		other.NewSum = r.word()
		return rehead(p, h, other)
	case 3:
		other := h
		other.Old, other.OldSum = r.below(300), r.word()
		return rehead(p, h, other)
	case 4:
		return r.outside(old)
	}
	return r.data(r.below(80))
}

// P20.3: drawn patches of all kinds, over the image that they are for, and over others.
func TestMeaningOfDrawn(t *testing.T) {
	r := rolls(3)
	count := map[api.Errno]int{}
	for range 1200 {
		old := r.image()
		p, _ := r.either(t, old)
		if r.below(2) == 0 {
			p = r.strange(t, old)
		}
		count[holdMeaning(t, p, old)]++
		switch r.below(3) {
		case 0:
			count[holdMeaning(t, p, r.bent(old))]++
		case 1:
			count[holdMeaning(t, p, r.image())]++
		case 2:
			if len(old) > 4 {
				count[holdMeaning(t, p, twin(old))]++
			}
		}
	}
	for _, err := range []api.Errno{api.OK, api.ErrFrameForm, api.ErrFrameSum, api.ErrMakeOld, api.ErrMakeRead, api.ErrMakeSum} {
		if count[err] < 25 {
			t.Errorf("%v", count)
		}
	}
}
