package maker_test

import (
	"bytes"
	"slices"
	"testing"

	"sapper/api"
	"sapper/frame"
	"sapper/maker"
)

// expectMerge: an error, and no patch beside it.
func expectMerge(t *testing.T, name string, p, q []byte, o api.Options, want api.Errno) {
	t.Helper()
	if m, err := maker.Merge(p, q, o); m != nil || err != want {
		t.Errorf("%s: Merge = % x, %v, not %v", name, m, err, want)
	}
	holdMerge(t, p, q, o)
}

// P20.4: the chapter's example 5, and patches from and to no bytes.
func TestMergeOfFew(t *testing.T) {
	o := usual()
	a, b, c, none := []byte("a"), []byte("b"), []byte("cd"), []byte(nil)
	p := mustGenerate(t, a, b, o)
	expectMerge(t, "a patch and itself", p, p, o, api.ErrMakeFit)
	for _, l := range [][3][]byte{{a, b, c}, {none, b, c}, {a, none, c}, {a, b, none}, {none, none, c}, {a, none, none}, {none, b, none}, {none, none, none}} {
		p, q := mustGenerate(t, l[0], l[1], o), mustGenerate(t, l[1], l[2], o)
		m := mustMerge(t, p, q, o)
		expectMeaning(t, "merged", m, l[0], l[2], api.OK)
		holdMerge(t, p, q, o)
	}
}

// P20.4: two patches made one, written out: of what is added to what was added, of what is added to what was copied, and of what is copied.
func TestMergeWrittenOut(t *testing.T) {
	o := usual()
	o.Window, o.Press.Look.Window = 65, 77
	old, mid, end := []byte("abcdefghij"), []byte("deXYef"), []byte("Zecd")
	// mid: d, e; X, Y; e, f (each from its place in old). end: Z; e by the 4th place of mid; Y + 10, which is c; X - 20 wraps to d.
	ph := api.Head{Old: 10, New: 6, OldSum: sumOf(old), NewSum: sumOf(mid), Window: 64, Look: 100}
	pw := api.Window{Pos: 3, Edit: api.Edit{Steps: steps(2, 2, -1, 2, 0, 0), Diff: make([]byte, 4), Extra: []byte("XY")}}
	qh := api.Head{Old: 6, New: 4, OldSum: sumOf(mid), NewSum: sumOf(end), Window: 80, Look: 3}
	qw := api.Window{Pos: 4, Edit: api.Edit{Steps: steps(0, 1, 0, 1, 0, -2, 1, 0, -2, 1, 0, 0), Diff: []byte{0, 'c' - 'Y', 'd' - 'X'}, Extra: []byte("Z")}}
	want := api.Head{Old: 10, New: 4, OldSum: sumOf(old), NewSum: sumOf(end), Window: 65, Look: 77}
	p, q := patchOf(ph, usual().Press, pw), patchOf(qh, api.Press{Look: api.Look{Window: 3}, Block: 5}, qw)
	h, l, err := frame.Decode(mustMerge(t, p, q, o))
	windows := []api.Window{{Pos: 4, Edit: api.Edit{Steps: steps(0, 1, 0, 1, 2, 0), Diff: []byte{0}, Extra: []byte("Zcd")}}}
	if h != want || !sameWindows(l, windows) || err != api.OK {
		t.Errorf("%v, %v, %v, not %v, %v", h, l, err, want, windows)
	}
	holdMerge(t, p, q, o)
}

// kinds of patches that are handed in.
const (
	right = iota
	noPatch
	otherSum
	readsOutside
)

// spoilt: a patch of that kind, that leads from old to next.
func spoilt(kind int, old, next []byte) []byte {
	h := api.Head{Old: len(old), New: len(next), OldSum: sumOf(old), NewSum: sumOf(next), Window: 64, Look: 100}
	w := api.Window{Edit: api.Edit{Steps: steps(0, len(next), 0), Extra: next}}
	if kind == readsOutside {
		w = api.Window{Pos: len(old), Edit: api.Edit{Steps: steps(1, len(next)-1, 0), Diff: next[:1], Extra: next[1:]}}
	}
	p := patchOf(h, usual().Press, w)
	switch kind {
	case noPatch:
		return p[:len(p)-1]
	case otherSum:
		p[len(p)-1] ^= 1
	}
	return p
}

// P20.4, R2: each of the errors, and which one comes first: the first and the second patch wrong in turn, patches that do not stand behind one another by size alone and by sum alone, options.
func TestOrderOfMerge(t *testing.T) {
	a, b, c := []byte("abc"), []byte("defg"), []byte("hijkl")
	all := []int{right, noPatch, otherSum, readsOutside}
	bad := usual()
	bad.Press.Block = 0
	for _, first := range all {
		for _, second := range all {
			for _, from := range [][]byte{b, []byte("defh"), []byte("def"), append(slices.Clone(b), 0), nil} {
				for _, o := range []api.Options{usual(), bad} {
					p, q := spoilt(first, a, b), spoilt(second, from, c)
					want := api.OK
					switch {
					case first == noPatch:
						want = api.ErrFrameForm
					case first == otherSum:
						want = api.ErrFrameSum
					case second == noPatch:
						want = api.ErrFrameForm
					case second == otherSum:
						want = api.ErrFrameSum
					case !bytes.Equal(from, b):
						want = api.ErrMakeFit
					case first == readsOutside || second == readsOutside:
						want = api.ErrMakeRead
					case o == bad:
						want = api.ErrMakeOption
					}
					if err := holdMerge(t, p, q, o); err != want {
						t.Errorf("first %d, second %d from %q, by %v: %v, not %v", first, second, from, o, err, want)
					}
				}
			}
		}
	}
}

// P20.4: patches that do not stand behind one another by size alone, and by sum alone.
func TestFit(t *testing.T) {
	a, b, c := []byte("abc"), []byte("defg"), []byte("hijkl")
	p, q := spoilt(right, a, b), spoilt(right, b, c)
	h, l, _ := frame.Decode(q)
	for _, x := range []struct {
		name string
		old  int
		turn uint32
		want api.Errno
	}{
		{"they do", 4, 0, api.OK},
		{"a byte less", 3, 0, api.ErrMakeFit},
		{"a byte more", 5, 0, api.ErrMakeFit},
		{"the first bit of the sum", 4, 1, api.ErrMakeFit},
		{"the last bit of the sum", 4, 1 << 31, api.ErrMakeFit},
		{"both", 5, 1, api.ErrMakeFit},
	} {
		other := h
		other.Old, other.OldSum = x.old, h.OldSum^x.turn
		patch := patchOf(other, usual().Press, l...)
		if err := holdMerge(t, p, patch, usual()); err != x.want {
			t.Errorf("%s: %v", x.name, err)
		}
		expectMerge(t, x.name+", the other way round", patch, p, usual(), api.ErrMakeFit)
	}
	// A NewSum that is another one is no matter, as long as they fit: nothing is made here.
	other := h
	other.NewSum++
	m := mustMerge(t, p, patchOf(other, usual().Press, l...), usual())
	expectMeaning(t, "another NewSum", m, a, nil, api.ErrMakeSum)
}

// P20.4: a window of p, and one of q, that leads to the end of the old image, and beyond it; the only one, and the last.
func TestReadingOutsideOfMerge(t *testing.T) {
	o := usual()
	for _, c := range []struct {
		name   string
		window api.Window
		want   api.Errno
	}{
		{"up to the end", window(5, 5, 0, 0), api.OK},
		{"a byte beyond the end", window(5, 6, 0, 0), api.ErrMakeRead},
		{"a Seek to the end", window(0, 1, 0, 9, 0, 1, 0), api.OK},
		{"a Seek beyond the end, behind which nothing is read", window(0, 1, 0, 10, 0, 1, 0), api.ErrMakeRead},
	} {
		size := len(c.window.Edit.Diff) + len(c.window.Edit.Extra)
		h := api.Head{Old: 10, New: size, OldSum: 5, NewSum: 6, Window: 64, Look: 100}
		behind := api.Head{Old: size, New: 1, OldSum: 6, NewSum: 7, Window: 64, Look: 100}
		ahead := api.Head{Old: 3, New: 10, OldSum: 4, NewSum: 5, Window: 64, Look: 100}
		patch := patchOf(h, o.Press, c.window)
		h.New += 64
		last := patchOf(h, o.Press, window(0, 10, 54, 0), c.window)
		after := patchOf(behind, o.Press, window(0, 1, 0, 0))
		behind.Old += 64
		afterLast := patchOf(behind, o.Press, window(0, 1, 0, 0))
		for _, x := range []struct {
			name string
			p, q []byte
		}{
			{"the first one's", patch, after},
			{"the second one's", patchOf(ahead, o.Press, window(0, 3, 7, 0)), patch},
			{"the first one's last", last, afterLast},
			{"the second one's last", patchOf(ahead, o.Press, window(0, 3, 7, 0)), last},
		} {
			if err := holdMerge(t, x.p, x.q, o); err != c.want {
				t.Errorf("%s: %s: %v, not %v", x.name, c.name, err, c.want)
			}
		}
	}
}

// P20.4: options that may not be, each by itself, ahead of which all else is looked at; and those that may be, which are not those of either patch.
func TestOptionsOfMerge(t *testing.T) {
	r := rolls(4)
	a := r.data(150)
	b := r.like(a)
	c := r.like(b)
	p, q := mustGenerate(t, a, b, r.options()), mustGenerate(t, b, c, r.options())
	for _, x := range choices() {
		want := api.ErrMakeOption
		if x.may {
			want = api.OK
		}
		if err := holdMerge(t, p, q, x.o); err != want {
			t.Errorf("%s: %v: %v, not %v", x.name, x.o, err, want)
		}
		if want == api.OK {
			m := mustMerge(t, p, q, x.o)
			h, _, err := frame.Decode(m)
			if h != (api.Head{Old: len(a), New: len(c), OldSum: sumOf(a), NewSum: sumOf(c), Window: x.o.Window, Look: x.o.Press.Look.Window}) || err != api.OK {
				t.Errorf("%s: %v, %v", x.name, h, err)
			}
		}
	}
}

// P20.4: drawn patches of all kinds, with windows of other sizes than those of either patch.
func TestMergeOfDrawn(t *testing.T) {
	r := rolls(5)
	count := map[api.Errno]int{}
	for range 900 {
		a := r.image()
		p, b := r.either(t, a)
		q, _ := r.either(t, b)
		switch r.below(8) {
		case 0:
			p = r.strange(t, a)
		case 1:
			q = r.strange(t, b)
		case 2:
			p, q = r.strange(t, a), r.strange(t, b)
		case 3:
			q = r.outside(b)
		case 4:
			p = r.outside(a)
			ahead, _, _ := frame.Decode(p)
			was, _, _ := frame.Decode(q)
			h := was
			h.Old, h.OldSum = ahead.New, ahead.NewSum
			q = rehead(q, was, h)
		}
		count[holdMerge(t, p, q, r.options())]++
	}
	for _, err := range []api.Errno{api.OK, api.ErrFrameForm, api.ErrFrameSum, api.ErrMakeFit, api.ErrMakeRead} {
		if count[err] < 20 {
			t.Errorf("%v", count)
		}
	}
}
