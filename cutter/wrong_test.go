package cutter_test

import (
	"bytes"
	"math"
	"slices"
	"testing"

	"sapper/api"
	"sapper/cutter"
	"sapper/edit"
)

// P17.2: edits that edit.Check refuses, each with its error, by windows that may be; ErrCutSize comes ahead of all of them.
func TestWrongEdits(t *testing.T) {
	m := api.MaxImage
	long := make([]byte, m+1)
	for i, c := range []struct {
		e    api.Edit
		want api.Errno
	}{
		{api.Edit{}, api.OK},
		{plain(1, 0, 0), api.OK},
		{api.Edit{Steps: steps(-1, 0, 0)}, api.ErrEditStep},
		{api.Edit{Steps: steps(0, -1, 0)}, api.ErrEditStep},
		{api.Edit{Steps: steps(0, 0, m+1)}, api.ErrEditStep},
		{api.Edit{Steps: steps(0, 0, -m-1)}, api.ErrEditStep},
		{api.Edit{Steps: steps(m+1, 0, 0)}, api.ErrEditStep},
		{api.Edit{Steps: steps(0, m+1, 0)}, api.ErrEditStep},
		{api.Edit{Steps: steps(math.MinInt, 0, 0)}, api.ErrEditStep},
		{api.Edit{Steps: steps(math.MaxInt, math.MaxInt, math.MaxInt)}, api.ErrEditStep},
		{api.Edit{Steps: steps(1, 0, math.MinInt), Diff: []byte{1}}, api.ErrEditStep},
		{api.Edit{Steps: steps(1, 0, math.MaxInt, math.MaxInt, 0, 0), Diff: []byte{1}}, api.ErrEditStep},
		{api.Edit{Steps: steps(1, 0, 0)}, api.ErrEditSize},
		{api.Edit{Steps: steps(0, 1, 0)}, api.ErrEditSize},
		{api.Edit{Diff: []byte{1}}, api.ErrEditSize},
		{api.Edit{Extra: []byte{1}}, api.ErrEditSize},
		{api.Edit{Steps: steps(2, 1, 0), Diff: []byte{1}, Extra: []byte{2, 3}}, api.ErrEditSize},
		{api.Edit{Steps: steps(m, 0, 0, m, 0, 0), Diff: []byte{1}}, api.ErrEditSize},
		{plain(0, 0, -1, 1, 0, 0), api.ErrEditRead},
		{plain(0, 0, m, 1, 0, 0), api.ErrEditRead},
		{plain(0, 0, m-1, 2, 0, 0), api.ErrEditRead},
		{plain(0, 0, m, 0, 0, m, 1, 0, 0), api.ErrEditRead},
		{api.Edit{Steps: steps(m, 0, 0), Diff: long}, api.ErrArg},
		{api.Edit{Steps: steps(m, 1, 0), Diff: long[:m], Extra: long[:1]}, api.ErrArg},
		{api.Edit{Steps: steps(-1, 0, 0), Diff: long}, api.ErrArg},
		{api.Edit{Steps: steps(0, m, 0), Extra: long}, api.ErrArg},
		// Several things are wrong: edit.Check says which comes first.
		{api.Edit{Steps: steps(7, 0, 0, 0, -1, 0)}, api.ErrEditStep},
		{api.Edit{Steps: steps(0, 0, -1, 1, 0, 0), Diff: []byte{1, 2}}, api.ErrEditSize},
	} {
		if err := edit.Check(c.e, m, size(c.e)); err != c.want {
			t.Errorf("%d: edit.Check = %v, not %v", i, err, c.want)
		}
		for n, may := range sizesOf() {
			want := c.want
			if !may {
				want = api.ErrCutSize
			}
			if l, err := cutter.Cut(c.e, n); err != want || err != api.OK && len(l) != 0 {
				t.Errorf("%d: Cut(.., %d) = %v, %v, not %v", i, n, l, err, want)
			}
		}
	}
}

// R1, R6: each call ends, and none panics, of steps that may be anything.
func TestAnything(t *testing.T) {
	ends := []int{math.MinInt, math.MinInt + 1, -api.MaxImage - 1, -api.MaxImage, -1, 0, 1, 2, api.MaxWindow, api.MaxWindow + 1, api.MaxImage, api.MaxImage + 1, math.MaxInt - 1, math.MaxInt}
	r := rolls(12)
	end := func() int {
		if r.below(2) == 0 {
			return r.below(3)
		}
		return ends[r.below(len(ends))]
	}
	for range 30000 {
		e := api.Edit{Diff: r.data(r.below(4)), Extra: r.data(r.below(4))}
		for range r.below(4) {
			e.Steps = append(e.Steps, api.Step{Add: end(), Copy: end(), Seek: end()})
		}
		w := api.Window{Pos: end(), Edit: e}
		holdCut(t, e, 64)
		cutter.Cut(e, end())
		holdJoin(t, 64, w)
		cutter.Join(end(), w, w)
		holdCheck(t, w, r.data(r.below(9)), size(e))
		cutter.Check(w, end(), end())
		cutter.Apply(r.data(r.below(9)), w, end())
		holdControl(t, e.Steps...)
		cutter.Most(end())
	}
}

// roomy: the same, with room behind it that holds others; and all of it.
func roomy[T any](l []T, other T) ([]T, []T) {
	all := append(slices.Clone(l), other, other, other)
	return all[:len(l):len(all)], all
}

// lent: an edit whose lists have room behind them; and whether all of it is as it was.
func lent(e api.Edit) (api.Edit, func() bool) {
	l, allSteps := roomy(e.Steps, api.Step{Add: 7, Copy: 8, Seek: 9})
	diff, allDiff := roomy(e.Diff, 77)
	extra, allExtra := roomy(e.Extra, 99)
	wasSteps, wasDiff, wasExtra := slices.Clone(allSteps), slices.Clone(allDiff), slices.Clone(allExtra)
	return api.Edit{Steps: l, Diff: diff, Extra: extra}, func() bool {
		return slices.Equal(allSteps, wasSteps) && bytes.Equal(allDiff, wasDiff) && bytes.Equal(allExtra, wasExtra)
	}
}

// spoil: all of a list, and the room behind it, is written over, and it is appended to.
func spoil[T any](l []T, v T) {
	for i := range l[:cap(l)] {
		l[:cap(l)][i] = v
	}
	_ = append(l, v)
	_ = append(l[:0], v)
}

// spoilEdit: likewise of an edit's lists.
func spoilEdit(e api.Edit, v byte) {
	spoil(e.Steps, api.Step{Add: -3, Copy: -4, Seek: -5})
	spoil(e.Diff, v)
	spoil(e.Extra, v+1)
}

// R3: what Cut answers hangs neither on the edit, nor on another answer, nor one of its lists on another one, of the same window or of another.
func TestMemoryOfCut(t *testing.T) {
	r := rolls(13)
	for range 300 {
		e, same := lent(r.fit(100, 8, 30))
		l := mustCut(t, e, 64)
		other := mustCut(t, e, 64)
		var want []api.Window
		for _, w := range l {
			want = append(want, clonedWindow(w))
		}
		for _, w := range other {
			spoilEdit(w.Edit, 200)
		}
		spoil(other, api.Window{Pos: -7})
		if !same() {
			t.Fatal("the edit has changed")
		}
		spoilEdit(e, 210)
		if !sameWindows(l, want) {
			t.Fatalf("the windows have become %v, and were %v", l, want)
		}
		for i := range l {
			got := l[i].Edit
			spoil(got.Diff, 220)
			if !bytes.Equal(got.Extra, want[i].Edit.Extra) {
				t.Fatalf("window %d: Diff and Extra share memory", i)
			}
			spoil(got.Extra, 221)
			if bytes.Contains(got.Diff, []byte{221}) {
				t.Fatalf("window %d: Extra and Diff share memory", i)
			}
			spoil(got.Steps, api.Step{Add: 9})
			if !sameWindows(l[i+1:], want[i+1:]) {
				t.Fatalf("window %d shares memory with one behind it", i)
			}
		}
		for i, w := range l {
			if slices.ContainsFunc(w.Edit.Diff, func(v byte) bool { return v != 220 }) || slices.ContainsFunc(w.Edit.Extra, func(v byte) bool { return v != 221 }) {
				t.Fatalf("window %d shares memory with one ahead of it or behind it", i)
			}
		}
	}
}

// R3: the windows that Join, Check and Apply are given, their lists, and the room behind them, stay as they were; what was answered hangs on none of it.
func TestMemoryOfWindows(t *testing.T) {
	r := rolls(14)
	for range 300 {
		old, allOld := roomy(r.data(60), 55)
		wasOld := slices.Clone(allOld)
		var given []api.Window
		var same []func() bool
		for range 1 + r.below(4) {
			w := r.window(60, 64, 20)
			e, as := lent(w.Edit)
			given, same = append(given, api.Window{Pos: w.Pos, Edit: e}), append(same, as)
		}
		l, all := roomy(given, api.Window{Pos: 77})
		wasAll := slices.Clone(all)
		stay := func() {
			t.Helper()
			for i, as := range same {
				if !as() {
					t.Fatalf("window %d has changed", i)
				}
			}
			if !sameWindows(all, wasAll) || !bytes.Equal(allOld, wasOld) {
				t.Fatal("what was handed in has changed")
			}
		}
		joined, err := cutter.Join(64, l...)
		made, madeErr := cutter.Apply(old, l[0], 64)
		if err != api.OK || madeErr != api.OK || cutter.Check(l[0], 60, 64) != api.OK {
			t.Fatal(err, madeErr)
		}
		stay()
		want, wantMade := clonedEdit(joined), slices.Clone(made)
		other, _ := cutter.Join(64, l...)
		spoilEdit(other, 200)
		otherMade, _ := cutter.Apply(old, l[0], 64)
		spoil(otherMade, 3)
		stay()
		for _, w := range l {
			spoilEdit(w.Edit, 210)
		}
		spoil(l, api.Window{Pos: -1})
		spoil(old, 1)
		if !sameEdit(joined, want) || !bytes.Equal(made, wantMade) {
			t.Fatalf("what was answered has become %v, %v", joined, made)
		}
		spoil(joined.Diff, 220)
		if !bytes.Equal(joined.Extra, want.Extra) {
			t.Fatal("Diff and Extra share memory")
		}
		spoil(joined.Extra, 221)
		if bytes.Contains(joined.Diff, []byte{221}) {
			t.Fatal("Extra and Diff share memory")
		}
	}
}

// R3: likewise of Control and Uncontrol.
func TestMemoryOfControl(t *testing.T) {
	l, all := roomy(steps(1, 2, -3, 400, 5, 600), api.Step{Add: 7})
	was := slices.Clone(all)
	b, err := cutter.Control(l...)
	other, _ := cutter.Control(l...)
	wantBytes := slices.Clone(b)
	spoil(other, 9)
	if err != api.OK || !slices.Equal(all, was) || !bytes.Equal(b, wantBytes) {
		t.Error("Control", err, all, b)
	}
	spoil(l, api.Step{Copy: 9})
	given, allGiven := roomy(b, 88)
	wasGiven := slices.Clone(allGiven)
	got, err := cutter.Uncontrol(given)
	otherSteps, _ := cutter.Uncontrol(given)
	spoil(otherSteps, api.Step{Add: 9})
	if err != api.OK || !bytes.Equal(allGiven, wasGiven) {
		t.Error("Uncontrol", err, allGiven)
	}
	spoil(given, 1)
	if !slices.Equal(got, was[:2]) || !bytes.Equal(b, wantBytes) {
		t.Error(got, b)
	}
}

// R3, R4: nil and empty lists are the same, and what is answered hangs on no capacity and on nothing that was asked ahead.
func TestNilAndRoom(t *testing.T) {
	empty := api.Edit{Steps: []api.Step{}, Diff: []byte{}, Extra: []byte{}}
	for _, e := range []api.Edit{{}, empty} {
		if l := holdCut(t, e, 64); len(l) != 0 {
			t.Error(l)
		}
		holdJoin(t, 64, api.Window{Edit: e})
		holdCheck(t, api.Window{Edit: e}, nil, 0)
		holdCheck(t, api.Window{Edit: e}, []byte{}, 1)
		holdControl(t, e.Steps...)
		holdUncontrol(t, e.Diff)
	}
	holdJoin(t, 64, []api.Window{}...)
	holdCut(t, api.Edit{Steps: steps(0, 2, 0), Diff: []byte{}, Extra: []byte{1, 2}}, 64)
	holdCheck(t, api.Window{Edit: api.Edit{Steps: steps(0, 2, 0), Diff: []byte{}, Extra: []byte{1, 2}}}, []byte{}, 2)
	r := rolls(15)
	for range 500 {
		e, _ := lent(r.fit(50, r.below(9), 20))
		holdCut(t, e, 64)
		old := r.data(50)
		w := r.window(len(old), 1+r.below(64), 20)
		w.Edit, _ = lent(w.Edit)
		holdCheck(t, w, old, size(w.Edit))
		holdJoin(t, 64, w)
		holdControl(t, w.Edit.Steps...)
	}
}
