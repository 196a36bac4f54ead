package cutter_test

import (
	"bytes"
	"math"
	"slices"
	"testing"

	"sapper/api"
	"sapper/cutter"
)

// holdCheck: P17.1, by the chapter's words; both calls.
func holdCheck(t *testing.T, w api.Window, old []byte, size int) {
	t.Helper()
	want, wantErr := applyOf(old, w, size)
	if err := cutter.Check(w, len(old), size); err != wantErr {
		t.Fatalf("Check(%v, %d, %d) = %v, not %v", w, len(old), size, err, wantErr)
	}
	if got, err := cutter.Apply(old, w, size); !bytes.Equal(got, want) || err != wantErr {
		t.Fatalf("Apply(%v, %v, %d) = %v, %v, not %v, %v", old, w, size, got, err, want, wantErr)
	}
}

// P17.1: the chapter's example, and bytes that are made, written out.
func TestExamplesOfCheck(t *testing.T) {
	w := api.Window{Pos: 3, Edit: api.Edit{Steps: steps(2, 0, 0), Diff: []byte{0, 1}}}
	if err := cutter.Check(w, 4, 2); err != api.ErrCutWindow {
		t.Error(err)
	}
	if b, err := cutter.Apply([]byte("abcd"), w, 2); len(b) != 0 || err != api.ErrCutWindow {
		t.Error(b, err)
	}
	if err := cutter.Check(w, 5, 2); err != api.OK {
		t.Error(err)
	}
	if b, err := cutter.Apply([]byte("abcde"), w, 2); string(b) != "df" || err != api.OK {
		t.Error(b, err)
	}
	w = api.Window{Pos: 4, Edit: api.Edit{Steps: steps(0, 1, -2, 2, 2, -4, 3, 0, 2, 0, 1, 0), Diff: []byte{0, 255, 1, 0, 2}, Extra: []byte("wxyz")}}
	if b, err := cutter.Apply([]byte("abcdef"), w, 9); string(b) != "wccxybbez" || err != api.OK {
		t.Errorf("%q, %v", b, err)
	}
}

// P17.1: additions go round at 256, of all pairs of bytes.
func TestGoesRound(t *testing.T) {
	for a := range 256 {
		for d := range 256 {
			w := api.Window{Edit: api.Edit{Steps: steps(1, 0, 0), Diff: []byte{byte(d)}}}
			if b, err := cutter.Apply([]byte{byte(a)}, w, 1); err != api.OK || len(b) != 1 || int(b[0]) != (a+d)%256 {
				t.Fatalf("%d with %d: %v, %v", a, d, b, err)
			}
		}
	}
}

// P17.1: each thing that makes a window one that may not be, by itself, and just ahead of it.
func TestEdgesOfCheck(t *testing.T) {
	bent := func(w api.Window, diff, extra int) api.Window {
		w.Edit.Diff, w.Edit.Extra = make([]byte, diff), make([]byte, extra)
		return w
	}
	two := window(0, 2, 1, 0, 1, 2, 0) // three added, three copied
	for _, c := range []struct {
		name      string
		w         api.Window
		old, size int
		may       bool
	}{
		{"old 0, nothing is read", window(0, 0, 1, 0), 0, 1, true},
		{"old -1", window(0, 0, 1, 0), -1, 1, false},
		{"old MaxImage", window(api.MaxImage-1, 1, 0, 0), api.MaxImage, 1, true},
		{"old one more", window(0, 1, 0, 0), api.MaxImage + 1, 1, false},
		{"size 0, no step", window(0), 5, 0, false},
		{"size 0, an empty step", window(0, 0, 0, 0), 5, 0, false},
		{"size 1, no step", window(0), 5, 1, false},
		{"size 1", window(0, 1, 0, 0), 5, 1, true},
		{"size -1", window(0, 1, 0, 0), 5, -1, false},
		{"size one less", window(0, 2, 1, 0), 5, 2, false},
		{"size one more", window(0, 2, 1, 0), 5, 4, false},
		{"size MaxWindow, added", window(0, api.MaxWindow, 0, 0), api.MaxWindow, api.MaxWindow, true},
		{"size one more, added", window(0, api.MaxWindow+1, 0, 0), api.MaxImage, api.MaxWindow + 1, false},
		{"size MaxWindow, copied", window(0, 0, api.MaxWindow, 0), 0, api.MaxWindow, true},
		{"size one more, copied", window(0, 0, api.MaxWindow+1, 0), 0, api.MaxWindow + 1, false},
		{"Pos -1", window(-1, 1, 0, 0), 5, 1, false},
		{"Pos -1, nothing is read", window(-1, 0, 1, 0), 5, 1, false},
		{"Pos -1, and the Seek leads inside", window(-1, 0, 1, 1, 1, 0, 0), 5, 2, false},
		{"Pos just old", window(5, 0, 1, 0), 5, 1, true},
		{"Pos just old, and reading", window(5, 1, 0, 0), 5, 1, false},
		{"Pos just old, and back", window(5, 0, 1, -1, 1, 0, 0), 5, 2, true},
		{"Pos one more", window(6, 0, 1, 0), 5, 1, false},
		{"Pos one more, and back", window(6, 0, 1, -1, 1, 0, 0), 5, 2, false},
		{"behind an Add just old", window(3, 2, 0, 0), 5, 2, true},
		{"behind an Add one more", window(3, 3, 0, 0), 5, 3, false},
		{"behind an Add one more, and back", window(3, 3, 0, -1, 0, 1, 0), 5, 4, false},
		{"behind a Seek 0", window(3, 1, 0, -4, 1, 0, 0), 5, 2, true},
		{"behind a Seek -1", window(3, 1, 0, -5, 0, 1, 0), 5, 2, false},
		{"behind a Seek -1, and back", window(3, 1, 0, -5, 0, 1, 1, 1, 0, 0), 5, 3, false},
		{"behind a Seek just old", window(3, 1, 0, 1, 0, 1, 0), 5, 2, true},
		{"behind a Seek one more", window(3, 1, 0, 2, 0, 1, 0), 5, 2, false},
		{"behind a Seek one more, and back", window(3, 1, 0, 2, 0, 1, -2, 1, 0, 0), 5, 3, false},
		{"Add 0", window(0, 0, 1, 3, 1, 0, 0), 5, 2, true},
		{"Add 0 between", window(0, 1, 0, 0, 0, 1, 0, 1, 0, 0), 5, 3, true},
		{"Copy 0", window(0, 1, 0, 3, 1, 0, 0), 5, 2, true},
		{"both 0 at first", window(0, 0, 0, 1, 1, 0, 0), 5, 1, false},
		{"both 0 between", window(0, 1, 0, 0, 0, 0, 0, 1, 0, 0), 5, 2, false},
		{"both 0 at last", window(0, 1, 0, 0, 0, 0, 0), 5, 1, false},
		{"the last Seek 1", window(0, 1, 0, 1), 5, 1, false},
		{"the last Seek -1", window(0, 1, 0, -1), 5, 1, false},
		{"two steps", two, 5, 6, true},
		{"Diff one more", bent(two, 4, 3), 5, 6, false},
		{"Diff one more, and size", bent(two, 4, 3), 5, 7, false},
		{"Diff one less", bent(two, 2, 3), 5, 6, false},
		{"Diff one less, and size", bent(two, 2, 3), 5, 5, false},
		{"Extra one more", bent(two, 3, 4), 5, 6, false},
		{"Extra one more, and size", bent(two, 3, 4), 5, 7, false},
		{"Extra one less", bent(two, 3, 2), 5, 6, false},
		{"Extra one less, and size", bent(two, 3, 2), 5, 5, false},
		{"one of Extra in Diff", bent(two, 4, 2), 5, 6, false},
		{"one of Diff in Extra", bent(two, 2, 4), 5, 6, false},
		{"Add -1", api.Window{Edit: api.Edit{Steps: steps(2, 0, 0, -1, 1, 0), Diff: []byte{1}, Extra: []byte{2}}}, 5, 2, false},
		{"Copy -1", api.Window{Edit: api.Edit{Steps: steps(0, 2, 0, 1, -1, 0), Diff: []byte{1}, Extra: []byte{2}}}, 5, 2, false},
	} {
		want := api.ErrCutWindow
		if c.may {
			want = api.OK
		}
		if err := cutter.Check(c.w, c.old, c.size); err != want {
			t.Errorf("%s: %v", c.name, err)
		}
		if err := checkOf(c.w, c.old, c.size); err != want {
			t.Errorf("%s: by the chapter's words %v", c.name, err)
		}
		if c.old < 0 {
			continue
		}
		if b, err := cutter.Apply(make([]byte, c.old), c.w, c.size); err != want || err != api.OK && len(b) != 0 {
			t.Errorf("%s: Apply = %v, %v", c.name, b, err)
		}
	}
}

// P17.1: of all windows of few small steps, with lists that are too short and too long, over small images, by all sizes.
func TestCheckOfAll(t *testing.T) {
	old := []byte{7, 250, 3}
	data := []byte{255, 1, 9, 77}
	for _, l := range slices.Concat(rowsOf(2, box(-1, 1, 1, -1, 1)), rowsOf(2, box(0, 2, 1, -2, 2))) {
		adds, copies := 0, 0
		for _, s := range l {
			adds, copies = adds+s.Add, copies+s.Copy
		}
		for diff := max(0, adds-1); diff <= min(4, adds+1); diff++ {
			for extra := max(0, copies-1); extra <= min(4, copies+1); extra++ {
				e := api.Edit{Steps: l, Diff: data[:diff], Extra: data[:extra]}
				for pos := -1; pos <= 4; pos++ {
					for n := range 4 {
						holdCheck(t, api.Window{Pos: pos, Edit: e}, old[:n], adds+copies)
						holdCheck(t, api.Window{Pos: pos, Edit: e}, old[:n], diff+extra)
					}
					holdCheck(t, api.Window{Pos: pos, Edit: e}, old, adds+copies+1)
					holdCheck(t, api.Window{Pos: pos, Edit: e}, old, adds+copies-1)
				}
			}
		}
	}
}

// P17.1: of drawn windows, and of those that are bent a little.
func TestCheckOfDrawn(t *testing.T) {
	r := rolls(4)
	for range 6000 {
		old := r.data(r.below(40))
		w := r.window(len(old), 1+r.below(50), 1+r.below(8))
		n := size(w.Edit)
		if err := cutter.Check(w, len(old), n); err != api.OK {
			t.Fatalf("Check(%v, %d, %d): %v", w, len(old), n, err)
		}
		holdCheck(t, w, old, n)
		holdCheck(t, w, old[:r.below(len(old)+1)], n)
		holdCheck(t, w, old, n+r.below(3)-1)
		for range 4 {
			b := r.bend(w)
			holdCheck(t, b, old, n)
			holdCheck(t, b, old, size(b.Edit))
			holdCheck(t, r.bend(b), old, n)
		}
	}
}

// P17.1: an old image of MaxImage bytes, and one that has one more.
func TestApplyOverTheLargest(t *testing.T) {
	long := make([]byte, api.MaxImage+1)
	long[api.MaxImage-1] = 200
	w := api.Window{Pos: api.MaxImage - 1, Edit: api.Edit{Steps: steps(1, 0, -api.MaxImage, 1, 0, 0), Diff: []byte{100, 5}}}
	if b, err := cutter.Apply(long[:api.MaxImage], w, 2); !bytes.Equal(b, []byte{44, 5}) || err != api.OK {
		t.Error(b, err)
	}
	for _, w := range []api.Window{w, window(0, 1, 0, 0), window(0, 0, 1, 0)} {
		if b, err := cutter.Apply(long, w, size(w.Edit)); len(b) != 0 || err != api.ErrCutWindow {
			t.Error(b, err)
		}
	}
}

// P17.1, R6: numbers at their ends, whose sums go beyond what an int holds, make a window one that may not be.
func TestCheckOfEnds(t *testing.T) {
	ends := []int{math.MinInt, math.MinInt + 1, math.MinInt / 2, -1, 0, 1, 2, math.MaxInt / 2, math.MaxInt/2 + 1, math.MaxInt - 1, math.MaxInt}
	old := []byte("abcde")
	refuse := func(w api.Window, old, size int) {
		t.Helper()
		if err := cutter.Check(w, old, size); err != api.ErrCutWindow {
			t.Errorf("Check(%v, %d, %d) = %v", w, old, size, err)
		}
	}
	for _, v := range ends {
		if -1 <= v && v <= 2 { // these have tests of their own
			continue
		}
		refuse(api.Window{Pos: v, Edit: plain(1, 0, 0)}, 5, 1)
		refuse(api.Window{Pos: v, Edit: plain(0, 1, 0)}, 5, 1)
		refuse(window(0, 1, 0, 0), v, 1)
		refuse(window(0, 1, 0, 0), 5, v)
		refuse(window(0, 1, 0, v), 5, 1)
		for _, u := range ends {
			for _, more := range [][]int{{0, 0, 0}, {1, 0, 0}, {-v, 0, 0}, {0, -v, 0}, {0, 0, -v}, {1, 1, -v}, {-v - 1, 0, 0}, {math.MaxInt, 2, 0}} {
				for _, l := range [][]api.Step{
					slices.Concat(steps(v, u, 0), steps(more...), steps(1, 0, 0)),
					slices.Concat(steps(u, v, 0), steps(more...)),
					slices.Concat(steps(1, 0, v), steps(1, 0, u), steps(more...)),
				} {
					for n := range 4 {
						w := api.Window{Pos: 1, Edit: api.Edit{Steps: l, Diff: make([]byte, n), Extra: make([]byte, 3-n)}}
						refuse(w, 5, 3)
						if b, err := cutter.Apply(old, w, 3); len(b) != 0 || err != api.ErrCutWindow {
							t.Errorf("Apply(.., %v, 3) = %v, %v", w, b, err)
						}
					}
				}
			}
		}
	}
}
