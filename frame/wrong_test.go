package frame_test

import (
	"bytes"
	"slices"
	"testing"

	"sapper/api"
	"sapper/frame"
)

// R1, R6: each call ends, and none panics, of numbers that may be anything.
func TestAnything(t *testing.T) {
	r := rolls(17)
	all := ends()
	end := func(usual int) int {
		if r.below(3) > 0 {
			return usual
		}
		return all[r.below(len(all))]
	}
	for range 20000 {
		h := api.Head{Old: end(10), New: end(66), OldSum: r.word(), NewSum: r.word(), Window: end(64), Look: end(100)}
		if h.New > 1<<20 { // these are of many windows, which are counted one by one here
			h.Window = max(h.Window, 1<<16)
		}
		holdHead(t, h)
		holdSizes(t, h, end(1), sizes(end(3), end(3), end(2), end(0), end(5), end(5), end(0)))
		o := api.Press{Look: api.Look{Window: end(100), Chain: end(10)}, Block: end(50)}
		w := window(3, 5, 59, 0)
		w.Pos = end(3)
		w.Edit.Steps[0] = api.Step{Add: end(5), Copy: end(59), Seek: end(0)}
		last := window(2, 1, 0, 3, 1, 0, 0)
		last.Edit.Steps[r.below(2)].Seek = end(0)
		holdEncode(t, h, o, w, last)
	}
}

// roomy: the same, with room behind it that holds others; and all of it.
func roomy[T any](l []T, other T) ([]T, []T) {
	all := append(slices.Clone(l), other, other, other)
	return all[:len(l):len(all)], all
}

// lent: a window whose lists have room behind them; and whether all of it is as it was.
func lent(w api.Window) (api.Window, func() bool) {
	l, allSteps := roomy(w.Edit.Steps, api.Step{Add: 7, Copy: 8, Seek: 9})
	diff, allDiff := roomy(w.Edit.Diff, 77)
	extra, allExtra := roomy(w.Edit.Extra, 99)
	wasSteps, wasDiff, wasExtra := slices.Clone(allSteps), slices.Clone(allDiff), slices.Clone(allExtra)
	return api.Window{Pos: w.Pos, Edit: api.Edit{Steps: l, Diff: diff, Extra: extra}}, func() bool {
		return slices.Equal(allSteps, wasSteps) && bytes.Equal(allDiff, wasDiff) && bytes.Equal(allExtra, wasExtra)
	}
}

// spoil: all of a list, and the room behind it, is written over, and it is appended to.
func spoil[T any](l []T, v T) {
	for i := range l[:cap(l)] {
		l[:cap(l)][i] = v
	}
	_ = append(l, v)
	_ = append(l[:0], v)
}

// spoilWindow: likewise of a window's lists.
func spoilWindow(w api.Window, v byte) {
	spoil(w.Edit.Steps, api.Step{Add: -3, Copy: -4, Seek: -5})
	spoil(w.Edit.Diff, v)
	spoil(w.Edit.Extra, v+1)
}

// R3: what Encode is given stays as it was, the room behind it, too; what it answers hangs on none of it, nor on another answer.
func TestMemoryOfEncode(t *testing.T) {
	r := rolls(18)
	for range 200 {
		h := r.head()
		o := r.options(h.Look)
		wasHead, wasOptions := h, o
		var given []api.Window
		var same []func() bool
		for _, w := range r.windows(h) {
			w, as := lent(w)
			given, same = append(given, w), append(same, as)
		}
		l, all := roomy(given, api.Window{Pos: 77})
		wasAll := clonedWindows(all)
		b := mustEncode(t, h, o, l...)
		want := slices.Clone(b)
		other := mustEncode(t, h, o, l...)
		spoil(other, 200)
		for i, as := range same {
			if !as() {
				t.Fatalf("window %d has changed", i)
			}
		}
		if !sameWindows(all, wasAll) || h != wasHead || o != wasOptions {
			t.Fatal("what was handed in has changed")
		}
		for _, w := range l {
			spoilWindow(w, 210)
		}
		spoil(l, api.Window{Pos: -1})
		if !bytes.Equal(b, want) {
			t.Fatalf("the patch has become % x, and was % x", b, want)
		}
		spoil(b, 9)
		if again := mustEncode(t, h, o, wasAll[:len(l)]...); !bytes.Equal(again, want) {
			t.Fatalf("the patch is % x, and was % x", again, want)
		}
	}
}

// R3: likewise of Decode; and no list of what it answers shares memory with another one, or with the bytes.
func TestMemoryOfDecode(t *testing.T) {
	r := rolls(19)
	for range 300 {
		h := r.head()
		given, all := roomy(mustEncode(t, h, r.options(h.Look), r.windows(h)...), 55)
		was := slices.Clone(all)
		_, l, err := frame.Decode(given)
		_, other, otherErr := frame.Decode(given)
		if err != api.OK || otherErr != api.OK {
			t.Fatal(err, otherErr)
		}
		want := clonedWindows(l)
		for _, w := range other {
			spoilWindow(w, 200)
		}
		spoil(other, api.Window{Pos: -7})
		if !bytes.Equal(all, was) {
			t.Fatal("the bytes have changed")
		}
		spoil(given, 210)
		if !sameWindows(l, want) {
			t.Fatalf("the windows have become %v, and were %v", l, want)
		}
		for i := range l {
			got := l[i].Edit
			spoil(got.Diff, 220)
			if !bytes.Equal(got.Extra, want[i].Edit.Extra) || !slices.Equal(got.Steps, want[i].Edit.Steps) {
				t.Fatalf("window %d: Diff shares memory", i)
			}
			spoil(got.Extra, 221)
			spoil(got.Steps, api.Step{Add: 9})
			if !sameWindows(l[i+1:], want[i+1:]) {
				t.Fatalf("window %d shares memory with one behind it", i)
			}
		}
		for i, w := range l {
			if slices.ContainsFunc(w.Edit.Diff, func(v byte) bool { return v != 220 }) || slices.ContainsFunc(w.Edit.Extra, func(v byte) bool { return v != 221 }) {
				t.Fatalf("window %d shares memory with one ahead of it or behind it", i)
			}
		}
		_ = append(l, api.Window{Pos: 5})
	}
}

// R3: likewise of Head, ReadHead and Sizes.
func TestMemoryOfHead(t *testing.T) {
	h := api.Head{Old: 300, New: 3, OldSum: 1, NewSum: 2, Window: 64, Look: 100}
	s := sizes(200, 3, 0, 3, 5, 0, 5)
	for _, call := range []func() ([]byte, api.Errno){
		func() ([]byte, api.Errno) { return frame.Head(h) },
		func() ([]byte, api.Errno) { return frame.Sizes(h, 0, s) },
	} {
		b, err := call()
		want := slices.Clone(b)
		other, _ := call()
		spoil(other, 9)
		if !bytes.Equal(b, want) || err != api.OK {
			t.Errorf("% x has become % x, %v", want, b, err)
		}
		spoil(b, 7)
		if again, _ := call(); !bytes.Equal(again, want) {
			t.Errorf("% x has become % x", want, again)
		}
	}
	if h != (api.Head{Old: 300, New: 3, OldSum: 1, NewSum: 2, Window: 64, Look: 100}) || s != sizes(200, 3, 0, 3, 5, 0, 5) {
		t.Error("what was handed in has changed")
	}
	given, all := roomy(headBytes(h), 88)
	was := slices.Clone(all)
	got, n, err := frame.ReadHead(given)
	if !bytes.Equal(all, was) {
		t.Error("the bytes have changed")
	}
	spoil(given, 1)
	if got != h || n != len(given) || err != api.OK {
		t.Error(got, n, err)
	}
	// What lies in the room behind the end is no part of the bytes.
	b := headBytes(h)
	if _, _, err := frame.ReadHead(b[:len(b)-1]); err != api.ErrFrameForm {
		t.Error(err)
	}
	p := mustEncode(t, api.Head{Window: 64, Look: 100}, options(100))
	if _, _, err := frame.Decode(p[:len(p)-1]); err != api.ErrFrameForm {
		t.Error(err)
	}
}

// R3, R4: nil and empty lists are the same, as windows and within them, and what is answered hangs on no capacity.
func TestNilAndRoom(t *testing.T) {
	h := api.Head{Old: 5, New: 2, Window: 64, Look: 100}
	none, empty := []byte(nil), []byte{}
	a := mustEncode(t, h, options(100), api.Window{Edit: api.Edit{Steps: steps(0, 2, 0), Diff: none, Extra: []byte{1, 2}}})
	b := mustEncode(t, h, options(100), api.Window{Edit: api.Edit{Steps: steps(0, 2, 0), Diff: empty, Extra: []byte{1, 2}}})
	if !bytes.Equal(a, b) {
		t.Errorf("% x, % x", a, b)
	}
	a = mustEncode(t, h, options(100), api.Window{Edit: api.Edit{Steps: steps(2, 0, 0), Diff: []byte{1, 2}, Extra: none}})
	b = mustEncode(t, h, options(100), api.Window{Edit: api.Edit{Steps: steps(2, 0, 0), Diff: []byte{1, 2}, Extra: empty}})
	if !bytes.Equal(a, b) {
		t.Errorf("% x, % x", a, b)
	}
	h.New = 0
	a, b = mustEncode(t, h, options(100), []api.Window(nil)...), mustEncode(t, h, options(100), []api.Window{}...)
	if !bytes.Equal(a, b) {
		t.Errorf("% x, % x", a, b)
	}
	for _, l := range [][]byte{none, empty} {
		if got, n, err := frame.ReadHead(l); got != (api.Head{}) || n != 0 || err != api.ErrFrameForm {
			t.Error(got, n, err)
		}
		if got, windows, err := frame.Decode(l); got != (api.Head{}) || len(windows) != 0 || err != api.ErrFrameForm {
			t.Error(got, windows, err)
		}
	}
	r := rolls(20)
	for range 100 {
		h := r.head()
		o := r.options(h.Look)
		var l []api.Window
		given := r.windows(h)
		for _, w := range given {
			w, _ := lent(w)
			l = append(l, w)
		}
		if a, b := mustEncode(t, h, o, l...), mustEncode(t, h, o, given...); !bytes.Equal(a, b) {
			t.Fatalf("% x, % x", a, b)
		}
	}
}
