package cutter_test

import (
	"math"
	"slices"
	"testing"

	"sapper/api"
	"sapper/cutter"
	"sapper/edit"
)

// holdJoin: P17.3, by the chapter's words.
func holdJoin(t *testing.T, n int, l ...api.Window) api.Edit {
	t.Helper()
	got, err := cutter.Join(n, l...)
	want, wantErr := joinOf(n, l)
	if !sameEdit(got, want) || err != wantErr {
		t.Fatalf("Join(%d, %v) = %v, %v, not %v, %v", n, l, got, err, want, wantErr)
	}
	return got
}

// P17.3: the steps that lead from one window to the next, written out.
func TestStepsOfJoin(t *testing.T) {
	for _, c := range []struct {
		name string
		l    []api.Window
		want []api.Step
	}{
		{"none", nil, nil},
		{"one, from 0 on", []api.Window{window(0, 3, 1, 0)}, steps(3, 1, 0)},
		{"one, from elsewhere on", []api.Window{window(9, 3, 1, 0)}, steps(0, 0, 9, 3, 1, 0)},
		{"a last one of 1 byte", []api.Window{window(0, 64, 0, 0), window(64, 1, 0, 0)}, steps(64, 0, 0, 1, 0, 0)},
		{"a last one of just as many", []api.Window{window(0, 64, 0, 0), window(64, 64, 0, 0)}, steps(64, 0, 0, 64, 0, 0)},
		{"where the one ahead ended", []api.Window{window(5, 30, 4, -20, 30, 0, 0), window(45, 2, 0, 0)}, steps(0, 0, 5, 30, 4, -20, 30, 0, 0, 2, 0, 0)},
		{"forwards", []api.Window{window(5, 30, 4, -20, 30, 0, 0), window(47, 2, 0, 0)}, steps(0, 0, 5, 30, 4, -20, 30, 0, 0, 0, 0, 2, 2, 0, 0)},
		{"backwards", []api.Window{window(5, 30, 4, -20, 30, 0, 0), window(0, 2, 0, 0)}, steps(0, 0, 5, 30, 4, -20, 30, 0, 0, 0, 0, -45, 2, 0, 0)},
		{"one of copied bytes alone leads back to 0", []api.Window{window(0, 64, 0, 0), window(0, 0, 64, 0), window(64, 1, 0, 0)}, steps(64, 0, 0, 0, 0, -64, 0, 64, 0, 0, 0, 64, 1, 0, 0)},
		{"one of copied bytes that ends elsewhere", []api.Window{window(3, 0, 60, 4, 0, 4, 0), window(7, 1, 0, 0)}, steps(0, 0, 3, 0, 60, 4, 0, 4, 0, 1, 0, 0)},
		{"to the last place and back", []api.Window{window(api.MaxImage, 0, 64, 0), window(0, 0, 64, 0), window(api.MaxImage, 0, 1, 0)}, steps(0, 0, api.MaxImage, 0, 64, 0, 0, 0, -api.MaxImage, 0, 64, 0, 0, 0, api.MaxImage, 0, 1, 0)},
	} {
		e := holdJoin(t, 64, c.l...)
		if !slices.Equal(e.Steps, c.want) {
			t.Errorf("%s: %v, not %v", c.name, e.Steps, c.want)
		}
		var diff, extra []byte
		for _, w := range c.l {
			diff, extra = append(diff, w.Edit.Diff...), append(extra, w.Edit.Extra...)
		}
		if !slices.Equal(e.Diff, diff) || !slices.Equal(e.Extra, extra) {
			t.Errorf("%s: other bytes: %v", c.name, e)
		}
		if err := edit.Check(e, api.MaxImage, len(diff)+len(extra)); err != api.OK {
			t.Errorf("%s: not an edit: %v", c.name, err)
		}
	}
}

// P17.3: windows that may not stand there: too few bytes and too many, no bytes, and what Check refuses; each at each place.
func TestWrongWindows(t *testing.T) {
	good := window(0, 60, 4, 0)
	short := window(0, 60, 3, 0)
	for i, c := range []struct {
		l    []api.Window
		want api.Errno
	}{
		{[]api.Window{good, good, good}, api.OK},
		{[]api.Window{good, good, short}, api.OK},
		{[]api.Window{good, short, good}, api.ErrCutWindow},
		{[]api.Window{short, good}, api.ErrCutWindow},
		{[]api.Window{short, short}, api.ErrCutWindow},
		{[]api.Window{short}, api.OK},
		{[]api.Window{good, window(0, 1, 0, 0)}, api.OK},
		{[]api.Window{good, window(0, 0, 1, 0)}, api.OK},
		{[]api.Window{good, window(0)}, api.ErrCutWindow},
		{[]api.Window{window(0)}, api.ErrCutWindow},
		{[]api.Window{window(0, 0, 0, 0)}, api.ErrCutWindow},
		{[]api.Window{window(0), good}, api.ErrCutWindow},
		{[]api.Window{good, window(0, 65, 0, 0)}, api.ErrCutWindow},
		{[]api.Window{good, window(0, 0, 65, 0)}, api.ErrCutWindow},
		{[]api.Window{window(0, 65, 0, 0)}, api.ErrCutWindow},
		{[]api.Window{window(0, 65, 0, 0), good}, api.ErrCutWindow},
		{[]api.Window{window(0, 63, 0, 0), window(0, 65, 0, 0)}, api.ErrCutWindow},
	} {
		holdJoin(t, 64, c.l...)
		if e, err := cutter.Join(64, c.l...); err != c.want || err != api.OK && !sameEdit(e, api.Edit{}) {
			t.Errorf("%d: %v, %v", i, e, err)
		}
	}
	for i, wrong := range []api.Window{
		window(-1, 64, 0, 0), window(api.MaxImage+1, 0, 64, 0), window(api.MaxImage-63, 64, 0, 0), window(0, 64, 0, 1), window(0, 64, 0, -1),
		window(0, 32, 0, -33, 32, 0, 0), window(0, 32, 0, api.MaxImage, 32, 0, 0), window(0, 64, 0, 0, 0, 0, 0), window(0, 0, 0, 1, 64, 0, 0),
		{Edit: api.Edit{Steps: steps(64, 0, 0), Diff: make([]byte, 63), Extra: make([]byte, 1)}},
		{Edit: api.Edit{Steps: steps(0, 64, 0), Diff: make([]byte, 64)}},
		{Edit: api.Edit{Steps: steps(65, -1, 0), Diff: make([]byte, 64)}},
		{Pos: math.MinInt, Edit: plain(64, 0, 0)}, {Pos: math.MaxInt, Edit: plain(64, 0, 0)},
		window(0, 64, 0, math.MaxInt), window(0, 64, 0, math.MinInt), window(0, 32, 0, math.MaxInt, 32, 0, 0), window(0, 32, 0, math.MinInt, 32, 0, 0),
		{Edit: api.Edit{Steps: steps(math.MaxInt, 0, 0, math.MaxInt, 0, 0, 66, 0, 0), Diff: make([]byte, 64)}},
		{Edit: api.Edit{Steps: steps(math.MinInt, 0, 0, math.MinInt, 0, 0, 64, 0, 0), Diff: make([]byte, 64)}},
	} {
		for _, l := range [][]api.Window{{wrong}, {wrong, good}, {good, wrong}, {good, wrong, good}, {good, good, wrong}} {
			holdJoin(t, 64, l...)
			if e, err := cutter.Join(64, l...); err != api.ErrCutWindow || !sameEdit(e, api.Edit{}) {
				t.Errorf("%d: %v, %v", i, e, err)
			}
		}
	}
}

// P17.3: windows that reach just the old image's end, of MaxImage bytes.
func TestJoinToTheEnd(t *testing.T) {
	e, err := cutter.Join(64, window(api.MaxImage-64, 64, 0, 0), window(api.MaxImage-1, 1, 0, 0))
	if err != api.OK || !slices.Equal(e.Steps, steps(0, 0, api.MaxImage-64, 64, 0, 0, 0, 0, -1, 1, 0, 0)) {
		t.Error(e.Steps, err)
	}
}

// P17.3: ErrCutSize ahead of all else; at the edges of what a window's size may be.
func TestJoinSizes(t *testing.T) {
	wrong := window(-1, 1, 0, 0)
	for n, may := range sizesOf() {
		if e, err := cutter.Join(n); !sameEdit(e, api.Edit{}) || may != (err == api.OK) || !may && err != api.ErrCutSize {
			t.Errorf("Join(%d) = %v, %v", n, e, err)
		}
		want := api.ErrCutWindow
		if !may {
			want = api.ErrCutSize
		}
		for _, l := range [][]api.Window{{wrong}, {wrong, wrong}, {{}}, {{}, {}}} {
			if e, err := cutter.Join(n, l...); !sameEdit(e, api.Edit{}) || err != want {
				t.Errorf("Join(%d, %v) = %v, %v", n, l, e, err)
			}
		}
		if !may {
			if e, err := cutter.Join(n, window(0, 1, 0, 0)); !sameEdit(e, api.Edit{}) || err != api.ErrCutSize {
				t.Errorf("Join(%d, ..) = %v, %v", n, e, err)
			}
			continue
		}
		if e := holdJoin(t, n, window(1, n, 0, 0), window(0, 0, n, 0)); size(e) != 2*n {
			t.Errorf("Join(%d, ..): %d bytes", n, size(e))
		}
		holdJoin(t, n, window(1, n, 0, 0), window(0, 0, n-1, 0))
		holdJoin(t, n, window(1, n-1, 0, 0), window(0, 0, n, 0))
		holdJoin(t, n, window(0, 0, n+1, 0))
		holdJoin(t, n, window(0, 1, n, 0), window(0, 1, 0, 0))
	}
}

// P17.3: of all windows of few small steps, filled up ahead, as the first of two, and as the last one.
func TestJoinOfAll(t *testing.T) {
	r := rolls(5)
	ahead := r.window(9, 64, 20)
	for _, l := range rowsOf(2, box(0, 2, 1, -2, 2)) {
		for pos := range 4 {
			w := api.Window{Pos: pos, Edit: r.full(l)}
			holdJoin(t, 64, w)
			holdJoin(t, 64, ahead, w)
			if n := 64 - size(w.Edit); n > 0 {
				filled := api.Window{Pos: pos, Edit: r.full(slices.Concat(steps(0, n, 0), l))}
				holdJoin(t, 64, filled, ahead)
				holdJoin(t, 64, filled, filled, w)
				added := api.Window{Pos: pos, Edit: r.full(slices.Concat(steps(n, 0, 0), l))}
				holdJoin(t, 64, added, filled)
			}
		}
	}
}

// P17.3: of drawn windows, which may be in any form that Check takes, and of those of which one is bent.
func TestJoinOfDrawn(t *testing.T) {
	r := rolls(6)
	for range 3000 {
		n, old := 64+r.below(30), r.below(200)
		var l []api.Window
		for range r.below(5) {
			l = append(l, r.window(old, n, 1+r.below(40)))
		}
		l = append(l, r.window(old, 1+r.below(n), 1+r.below(40)))
		if _, err := cutter.Join(n, l...); err != api.OK {
			t.Fatalf("Join(%d, %v): %v", n, l, err)
		}
		holdJoin(t, n, l...)
		holdJoin(t, n, l[:len(l)-1]...)
		holdJoin(t, n+1, l...)
		holdJoin(t, max(64, n-1), l...)
		at := r.below(len(l))
		l[at] = r.bend(l[at])
		holdJoin(t, n, l...)
	}
}

// P17.3: the chapter names no bound for all windows together: beyond MaxImage bytes they make an edit that edit.Check refuses.
func TestJoinOfMany(t *testing.T) {
	w := window(0, 0, api.MaxWindow, 0)
	for _, n := range []int{256, 257} {
		e, err := cutter.Join(api.MaxWindow, slices.Repeat([]api.Window{w}, n)...)
		if err != api.OK || len(e.Extra) != n*api.MaxWindow || len(e.Steps) != n {
			t.Errorf("%d windows: %d steps, %d bytes, %v", n, len(e.Steps), len(e.Extra), err)
		}
	}
}
