package cutter_test

import (
	"slices"
	"testing"

	"sapper/api"
	"sapper/cutter"
)

// holdCut: P17.2, by the chapter's words.
func holdCut(t *testing.T, e api.Edit, window int) []api.Window {
	t.Helper()
	got, err := cutter.Cut(e, window)
	want, wantErr := cutOf(e, window)
	if !sameWindows(got, want) || err != wantErr {
		t.Fatalf("Cut(%v, %d) = %v, %v, not %v, %v", e, window, got, err, want, wantErr)
	}
	return got
}

// mustCut: the windows of an edit that can be cut.
func mustCut(t *testing.T, e api.Edit, window int) []api.Window {
	t.Helper()
	l, err := cutter.Cut(e, window)
	if err != api.OK {
		t.Fatalf("Cut(.., %d): %v", window, err)
	}
	return l
}

// P17.2: the chapter's examples.
func TestExamplesOfCut(t *testing.T) {
	l := mustCut(t, api.Edit{Steps: steps(70, 0, 0), Diff: make([]byte, 70)}, 64)
	want := []api.Window{
		{Pos: 0, Edit: api.Edit{Steps: steps(64, 0, 0), Diff: make([]byte, 64)}},
		{Pos: 64, Edit: api.Edit{Steps: steps(6, 0, 0), Diff: make([]byte, 6)}},
	}
	if !sameWindows(l, want) {
		t.Errorf("%v", l)
	}
	for _, c := range []struct {
		e    api.Edit
		want api.Window
	}{
		{plain(2, 1, -2, 2, 0, 0), window(0, 2, 1, -2, 2, 0, 0)},
		{plain(2, 0, 0, 2, 0, 0), window(0, 4, 0, 0)},
		{plain(0, 0, 5, 2, 3, 9), window(5, 2, 3, 0)},
		{plain(0, 2, 7, 1, 0, 0), window(7, 0, 2, 0, 1, 0, 0)},
	} {
		if l := mustCut(t, c.e, 64); !sameWindows(l, []api.Window{c.want}) {
			t.Errorf("Cut(%v) = %v", c.e, l)
		}
	}
}

// P17.2: the steps of a window, written out.
func TestStepsOfAWindow(t *testing.T) {
	for _, c := range []struct {
		name string
		e    api.Edit
		want api.Window
	}{
		{"copied alone: Pos 0, wherever the place is", plain(0, 3, 0), window(0, 0, 3, 0)},
		{"copied alone behind a Seek", plain(0, 0, 9, 0, 3, 4), window(0, 0, 3, 0)},
		{"copied alone in several steps", plain(0, 1, 5, 0, 0, -9, 0, 2, 7), window(0, 0, 3, 0)},
		{"the last Seek is of no matter", plain(2, 0, 5), window(0, 2, 0, 0)},
		{"steps that make nothing", plain(0, 0, 3, 0, 0, -1, 1, 0, 4, 0, 0, -4, 1, 0, 0, 0, 0, 8), window(2, 2, 0, 0)},
		{"they lead elsewhere", plain(1, 0, 3, 0, 0, 1, 1, 0, 0), window(0, 1, 0, 4, 1, 0, 0)},
		{"there and back again", plain(1, 0, 3, 0, 0, -3, 1, 0, 0), window(0, 2, 0, 0)},
		{"a copy on the way", plain(1, 0, 3, 0, 2, -3, 1, 0, 0), window(0, 1, 2, 0, 1, 0, 0)},
		{"copies that lie behind one another", plain(1, 1, 3, 0, 2, 2, 0, 1, -4, 1, 0, 0), window(0, 1, 4, 1, 1, 0, 0)},
		{"the same place once more", plain(1, 0, -1, 1, 0, -1, 1, 0, 0), window(0, 1, 0, -1, 1, 0, -1, 1, 0, 0)},
		{"backwards", plain(0, 0, 4, 1, 0, -2, 1, 0, -2, 1, 0, 0), window(4, 1, 0, -2, 1, 0, -2, 1, 0, 0)},
		{"copied ahead of what is added at 0", plain(0, 2, 0, 3, 1, 0), window(0, 0, 2, 0, 3, 1, 0)},
		{"copied ahead, in several steps", plain(0, 1, 6, 0, 1, -1, 3, 1, 2, 1, 0, 0), window(5, 0, 2, 0, 3, 1, 2, 1, 0, 0)},
		{"to the last place of all", plain(0, 0, api.MaxImage, 0, 0, -1, 1, 0, -api.MaxImage, 1, 0, 0), window(api.MaxImage-1, 1, 0, -api.MaxImage, 1, 0, 0)},
		{"from the first to the last", plain(1, 0, api.MaxImage-2, 1, 0, 0), window(0, 1, 0, api.MaxImage-2, 1, 0, 0)},
		{"places that nothing is read at", plain(1, 0, -api.MaxImage, 0, 1, -api.MaxImage, 0, 0, api.MaxImage, 0, 0, api.MaxImage, 1, 0, 0), window(0, 1, 1, 0, 1, 0, 0)},
	} {
		if l := mustCut(t, c.e, 64); !sameWindows(l, []api.Window{c.want}) {
			t.Errorf("%s: Cut(%v) = %v, not %v", c.name, c.e, l, c.want)
		}
	}
}

// P17.2: where a window ends, written out: rows that go on over its end, windows that begin with copied bytes, and those that have no other.
func TestWhereWindowsEnd(t *testing.T) {
	type shape struct {
		pos int
		l   []api.Step
	}
	for _, c := range []struct {
		name string
		l    []int
		want []shape
	}{
		{"no steps", nil, nil},
		{"no bytes", []int{0, 0, 5, 0, 0, -9}, nil},
		{"one byte", []int{1, 0, 0}, []shape{{0, steps(1, 0, 0)}}},
		{"one less than a window", []int{63, 0, 0}, []shape{{0, steps(63, 0, 0)}}},
		{"just one window", []int{64, 0, 0}, []shape{{0, steps(64, 0, 0)}}},
		{"one byte more", []int{65, 0, 0}, []shape{{0, steps(64, 0, 0)}, {64, steps(1, 0, 0)}}},
		{"just one, of both kinds, and a Seek behind it", []int{0, 0, 3, 32, 32, 7, 0, 0, 1}, []shape{{3, steps(32, 32, 0)}}},
		{"just two", []int{128, 0, 0}, []shape{{0, steps(64, 0, 0)}, {64, steps(64, 0, 0)}}},
		{"an added row over two ends", []int{0, 0, 9, 130, 0, 0}, []shape{{9, steps(64, 0, 0)}, {73, steps(64, 0, 0)}, {137, steps(2, 0, 0)}}},
		{"a copied row over two ends", []int{0, 0, 9, 0, 130, 0}, []shape{{0, steps(0, 64, 0)}, {0, steps(0, 64, 0)}, {0, steps(0, 2, 0)}}},
		{"a copied row over an end, then adding", []int{5, 60, -3, 2, 0, 0}, []shape{{0, steps(5, 59, 0)}, {2, steps(0, 1, 0, 2, 0, 0)}}},
		{"an added row over an end, then copying", []int{0, 0, 4, 66, 2, 1, 1, 0, 0}, []shape{{4, steps(64, 0, 0)}, {68, steps(2, 2, 1, 1, 0, 0)}}},
		{"a Seek just at the end", []int{64, 0, -10, 3, 0, 0}, []shape{{0, steps(64, 0, 0)}, {54, steps(3, 0, 0)}}},
		{"a Seek behind a copy at the end", []int{60, 4, 11, 3, 0, 0}, []shape{{0, steps(60, 4, 0)}, {71, steps(3, 0, 0)}}},
		{"steps that go on at the end", []int{64, 0, 0, 1, 0, 0}, []shape{{0, steps(64, 0, 0)}, {64, steps(1, 0, 0)}}},
		{"copied ones alone between", []int{64, 64, -1, 1, 0, 0}, []shape{{0, steps(64, 0, 0)}, {0, steps(0, 64, 0)}, {63, steps(1, 0, 0)}}},
	} {
		e := plain(c.l...)
		got := mustCut(t, e, 64)
		if len(got) != len(c.want) {
			t.Errorf("%s: %d windows", c.name, len(got))
			continue
		}
		diff, extra := e.Diff, e.Extra
		for i, w := range got {
			if w.Pos != c.want[i].pos || !slices.Equal(w.Edit.Steps, c.want[i].l) {
				t.Errorf("%s: window %d: %d, %v, not %v", c.name, i, w.Pos, w.Edit.Steps, c.want[i])
			}
			if !slices.Equal(w.Edit.Diff, diff[:len(w.Edit.Diff)]) || !slices.Equal(w.Edit.Extra, extra[:len(w.Edit.Extra)]) {
				t.Errorf("%s: window %d has other bytes: %v", c.name, i, w.Edit)
			}
			diff, extra = diff[len(w.Edit.Diff):], extra[len(w.Edit.Extra):]
		}
		if len(diff)+len(extra) > 0 {
			t.Errorf("%s: %d and %d bytes are in no window", c.name, len(diff), len(extra))
		}
	}
}

// P17.2: of all short edits, with rows of added and of copied bytes ahead of them, so that a window ends at each of their places.
func TestCutOfAll(t *testing.T) {
	r := rolls(1)
	for _, l := range short() {
		made := 0
		for _, s := range l {
			made += s.Add + s.Copy
		}
		holdCut(t, r.full(l), 64)
		holdCut(t, r.full(slices.Concat(steps(0, 0, 8), l)), 64)
		for left := range made + 1 {
			n := 64 - left
			holdCut(t, r.full(slices.Concat(steps(n, 0, 0), l)), 64)
			holdCut(t, r.full(slices.Concat(steps(0, n, 8), l)), 64)
			holdCut(t, r.full(slices.Concat(steps(n-3, 3, 0), l)), 64)
		}
	}
}

// P17.2: of drawn edits, by windows of drawn sizes; those that read too far among them.
func TestCutOfDrawn(t *testing.T) {
	r := rolls(2)
	for range 4000 {
		old := r.below(300)
		holdCut(t, r.fit(old, r.below(30), 1+r.below(40)), 64+r.below(20))
		holdCut(t, r.fit(old, r.below(60), 1+r.below(4)), 64+r.below(80))
		holdCut(t, r.full(slices.Concat(steps(0, 0, r.below(5)-2), r.fit(old, r.below(4), 90).Steps)), 64)
	}
}

// P17.2: all that Cut answers may be (over the least old image that the edit reads in), is of window bytes but for the last one, and has as few steps as there can be.
func TestFewestSteps(t *testing.T) {
	r := rolls(3)
	for range 1500 {
		old := r.below(40)
		e := r.fit(old, r.below(40), 1+r.below(6))
		all := kindsOf(0, e)
		l := mustCut(t, e, 64)
		if len(l) != (len(all)+63)/64 {
			t.Fatalf("%d windows of %d bytes", len(l), len(all))
		}
		for i, w := range l {
			part := all[64*i : min(64*i+64, len(all))]
			if err := cutter.Check(w, old, len(part)); err != api.OK {
				t.Fatalf("Check(%v, %d, %d): %v", w, old, len(part), err)
			}
			if want := leastSteps(part); len(w.Edit.Steps) != want {
				t.Fatalf("%v: %d steps, not %d", w, len(w.Edit.Steps), want)
			}
			if !slices.Equal(kindsOf(w.Pos, w.Edit), part) {
				t.Fatalf("%v has other bytes than %v", w, part)
			}
		}
	}
}

// P17.2: ErrCutSize for windows that are too small, and too large; at the edges they are cut.
func TestCutSizes(t *testing.T) {
	e := plain(0, 0, 2, 40, 30, -9, 50, 2, 0)
	for n, may := range sizesOf() {
		holdCut(t, e, n)
		l, err := cutter.Cut(e, n)
		if may != (err == api.OK) || !may && (err != api.ErrCutSize || len(l) != 0) {
			t.Errorf("Cut(.., %d) = %v, %v", n, l, err)
		}
		if l, err = cutter.Cut(api.Edit{}, n); len(l) != 0 || may != (err == api.OK) || !may && err != api.ErrCutSize {
			t.Errorf("Cut(none, %d) = %v, %v", n, l, err)
		}
	}
}

// P17.2: images of MaxImage bytes, by the smallest windows and by the largest.
func TestCutOfTheLargest(t *testing.T) {
	e := api.Edit{Steps: steps(api.MaxImage, 0, 0), Diff: make([]byte, api.MaxImage)}
	own := api.Edit{Steps: steps(0, api.MaxImage, 0), Extra: make([]byte, api.MaxImage)}
	for _, n := range []int{api.MinWindow, api.MaxWindow, api.MaxWindow - 1} {
		l := mustCut(t, e, n)
		if len(l) != (api.MaxImage+n-1)/n {
			t.Errorf("by %d: %d windows", n, len(l))
		}
		for i, w := range l {
			if w.Pos != i*n || !slices.Equal(w.Edit.Steps, steps(min(n, api.MaxImage-i*n), 0, 0)) {
				t.Fatalf("by %d: window %d: %d, %v", n, i, w.Pos, w.Edit.Steps)
			}
		}
		l = mustCut(t, own, n)
		for i, w := range l {
			if w.Pos != 0 || !slices.Equal(w.Edit.Steps, steps(0, min(n, api.MaxImage-i*n), 0)) {
				t.Fatalf("by %d: window %d: %d, %v", n, i, w.Pos, w.Edit.Steps)
			}
		}
	}
}
