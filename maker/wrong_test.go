package maker_test

import (
	"bytes"
	"math"
	"slices"
	"testing"

	"sapper/api"
	"sapper/maker"
)

// R1, R6: each call ends, and none panics, of numbers and bytes that may be anything.
func TestAnything(t *testing.T) {
	r := rolls(18)
	ends := []int{math.MinInt, math.MinInt + 1, -1, 0, 1, 63, 64, 4096, 4097, 32768, 32769, 65536, 65537, math.MaxInt - 1, math.MaxInt}
	end := func(usual int) int {
		if r.below(3) > 0 {
			return usual
		}
		return r.of(ends...)
	}
	for range 1500 {
		o := api.Options{Window: end(64), Press: api.Press{Look: api.Look{Window: end(100), Chain: end(10), Lazy: r.below(2) == 0}, Block: end(100)}}
		a, b := r.data(r.below(30)), r.data(r.below(30))
		if err := maker.Options(o); err != optionsOf(o) {
			t.Fatalf("Options(%v): %v", o, err)
		}
		holdPlan(t, a, b, o)
		holdBest(t, a, b, usual(), o)
		holdMeaning(t, a, b)
		p, _ := r.patch(a)
		p = r.bent(p)
		holdMeaning(t, p, a)
		holdMerge(t, p, b, o)
		holdMerge(t, b, p, o)
		holdUndo(t, p, a, o)
		holdUndo(t, p, p, o)
	}
}

// R1, R3: nil and empty lists are the same, as each of the arguments.
func TestNil(t *testing.T) {
	o := usual()
	none := mustGenerate(t, nil, nil, o)
	from := mustGenerate(t, nil, []byte("abc"), o)
	to := mustGenerate(t, []byte("abc"), nil, o)
	for _, nothing := range [][]byte{nil, {}, make([]byte, 0, 9), []byte("xyz")[:0]} {
		if p := mustGenerate(t, nothing, nothing, o); !bytes.Equal(p, none) {
			t.Errorf("% x", p)
		}
		if p := mustGenerate(t, nothing, []byte("abc"), o); !bytes.Equal(p, from) {
			t.Errorf("% x", p)
		}
		if p := mustGenerate(t, []byte("abc"), nothing, o); !bytes.Equal(p, to) {
			t.Errorf("% x", p)
		}
		holdPlan(t, nothing, nothing, o)
		holdPlan(t, nothing, []byte("abc"), o)
		holdPlan(t, []byte("abc"), nothing, o)
		holdBest(t, nothing, nothing, o)
		holdBest(t, nothing, []byte("abc"), o)
		holdBest(t, []byte("abc"), nothing, o)
		expectBest(t, "no options", nothing, nothing, api.ErrArg)
		expectMeaning(t, "none to none", none, nothing, nil, api.OK)
		expectMeaning(t, "none to abc", from, nothing, []byte("abc"), api.OK)
		expectMeaning(t, "abc to none", to, nothing, nil, api.ErrMakeOld)
		expectMeaning(t, "no patch", nothing, nothing, nil, api.ErrFrameForm)
		expectMeaning(t, "no patch, an image", nothing, []byte("abc"), nil, api.ErrFrameForm)
		expectMerge(t, "nothing and nothing", nothing, nothing, o, api.ErrFrameForm)
		expectMerge(t, "nothing, and a patch", nothing, none, o, api.ErrFrameForm)
		expectMerge(t, "a patch, and nothing", none, nothing, o, api.ErrFrameForm)
		expectMeaning(t, "undone", mustUndo(t, from, nothing, o), []byte("abc"), nil, api.OK)
		if u, err := maker.Undo(nothing, nothing, o); u != nil || err != api.ErrFrameForm {
			t.Errorf("% x, %v", u, err)
		}
	}
	if err := maker.Options(api.Options{}); err != api.ErrMakeOption {
		t.Error(err)
	}
}

// lent: bytes with room behind them that holds others; and whether all of it is as it was.
func lent(b []byte) ([]byte, func() bool) {
	all := append(slices.Clone(b), 77, 88, 99)
	was := slices.Clone(all)
	return all[:len(b):len(all)], func() bool { return bytes.Equal(all, was) }
}

// spoil: all of a list, and the room behind it, is written over, and it is appended to.
func spoil[T any](l []T, v T) {
	for i := range l[:cap(l)] {
		l[:cap(l)][i] = v
	}
	_ = append(l, v)
	_ = append(l[:0], v)
}

// spoilWindows: likewise of windows and all that is in them.
func spoilWindows(l []api.Window) {
	for _, w := range l {
		spoil(w.Edit.Steps, api.Step{Add: -3, Copy: -4, Seek: -5})
		spoil(w.Edit.Diff, 200)
		spoil(w.Edit.Extra, 201)
	}
	spoil(l, api.Window{Pos: -1})
}

// call: one that answers bytes, of two lists.
type call func(a, b []byte) ([]byte, api.Errno)

// calls: all of those that answer bytes, with lists that they take.
func calls(t *testing.T, r *rolls) []struct {
	name string
	call call
	a, b []byte
} {
	t.Helper()
	o := r.options()
	a := append(r.image(), 1)
	p, b := r.either(t, a)
	q, _ := r.either(t, b)
	return []struct {
		name string
		call call
		a, b []byte
	}{
		{"Generate", func(x, y []byte) ([]byte, api.Errno) { return maker.Generate(x, y, o) }, a, b},
		{"Meaning", maker.Meaning, p, a},
		{"Merge", func(x, y []byte) ([]byte, api.Errno) { return maker.Merge(x, y, o) }, p, q},
		{"Undo", func(x, y []byte) ([]byte, api.Errno) { return maker.Undo(x, y, o) }, p, a},
		{"Best", func(x, y []byte) ([]byte, api.Errno) {
			out, _, err := maker.Best(x, y, o, usual())
			return out, err
		}, a, b},
	}
}

// R3, R4: what is handed in stays as it was, the room behind it, too; what is answered hangs on none of it, nor on a capacity, nor on another answer.
func TestMemory(t *testing.T) {
	r := rolls(19)
	for range 150 {
		for _, c := range calls(t, &r) {
			first, firstSame := lent(c.a)
			second, secondSame := lent(c.b)
			out, err := c.call(first, second)
			want := slices.Clone(out)
			other, otherErr := c.call(c.a, c.b)
			if err != api.OK || otherErr != api.OK || !bytes.Equal(out, other) {
				t.Fatalf("%s: % x, %v, and % x, %v", c.name, out, err, other, otherErr)
			}
			spoil(other, 210)
			if !firstSame() || !secondSame() {
				t.Fatalf("%s: what was handed in has changed", c.name)
			}
			spoil(first, 220)
			spoil(second, 230)
			if !bytes.Equal(out, want) {
				t.Fatalf("%s: % x has become % x", c.name, want, out)
			}
			spoil(out, 240)
			if again, err := c.call(c.a, c.b); !bytes.Equal(again, want) || err != api.OK {
				t.Fatalf("%s: % x, %v, and was % x", c.name, again, err, want)
			}
		}
	}
}

// R3: one list handed in as both arguments.
func TestSameList(t *testing.T) {
	r := rolls(20)
	for range 100 {
		a, same := lent(append(r.image(), 1))
		p := mustGenerate(t, a, a, r.options())
		expectMeaning(t, "itself", p, a, a, api.OK)
		holdPlan(t, a, a, usual())
		m := mustMerge(t, p, p, usual())
		expectMeaning(t, "twice itself", m, a, a, api.OK)
		holdMerge(t, p, p, usual())
		holdMeaning(t, p, p)
		if !same() {
			t.Fatal("what was handed in has changed")
		}
	}
}

// R3: likewise of Plan; and no list of what it answers shares memory with another one, or with the images.
func TestMemoryOfPlan(t *testing.T) {
	r := rolls(21)
	for range 200 {
		o := r.options()
		a := r.image()
		old, oldSame := lent(a)
		next, nextSame := lent(r.next(a))
		h, l, err := maker.Plan(old, next, o)
		wantHead, want, _ := planOf(old, next, o)
		_, other, _ := maker.Plan(old, next, o)
		spoilWindows(other)
		if !oldSame() || !nextSame() {
			t.Fatal("what was handed in has changed")
		}
		spoil(old, 220)
		spoil(next, 230)
		if h != wantHead || !sameWindows(l, want) || err != api.OK {
			t.Fatalf("%v, %v have become %v, %v, %v", wantHead, want, h, l, err)
		}
		for i := range l {
			got := l[i].Edit
			spoil(got.Diff, 220)
			if !bytes.Equal(got.Extra, want[i].Edit.Extra) || !slices.Equal(got.Steps, want[i].Edit.Steps) {
				t.Fatalf("window %d: Diff shares memory", i)
			}
			spoil(got.Extra, 221)
			spoil(got.Steps, api.Step{Add: 9})
			if !sameWindows(l[i+1:], want[i+1:]) {
				t.Fatalf("window %d shares memory with one behind it", i)
			}
		}
		for i, w := range l {
			if slices.ContainsFunc(w.Edit.Diff, func(v byte) bool { return v != 220 }) || slices.ContainsFunc(w.Edit.Extra, func(v byte) bool { return v != 221 }) {
				t.Fatalf("window %d shares memory with another one", i)
			}
		}
	}
}

// R3: the options that are handed to Best stay as they were, and may be written over.
func TestMemoryOfOptions(t *testing.T) {
	r := rolls(22)
	for range 50 {
		old := r.image()
		next := r.next(old)
		all := []api.Options{r.options(), r.options(), r.options(), {Window: 7}}
		was := slices.Clone(all)
		p, place, err := maker.Best(old, next, all[:3]...)
		want := mustGenerate(t, old, next, was[place])
		if !slices.Equal(all, was) || err != api.OK {
			t.Fatalf("%v have become %v, %v", was, all, err)
		}
		spoil(all, api.Options{Window: -1})
		if !bytes.Equal(p, want) {
			t.Fatalf("% x has become % x", want, p)
		}
	}
}

// R4: several at one time know nothing of each other.
func TestSideBySide(t *testing.T) {
	r := rolls(23)
	type job struct{ old, next, want []byte }
	var l []job
	for range 16 {
		old := r.image()
		next := r.next(old)
		l = append(l, job{old, next, mustGenerate(t, old, next, usual())})
	}
	done := make(chan bool)
	for _, j := range l {
		go func() {
			right := true
			for range 5 {
				p, err := maker.Generate(j.old, j.next, usual())
				b, errM := maker.Meaning(p, j.old)
				_, errW := maker.Meaning(p[1:], j.old)
				right = right && bytes.Equal(p, j.want) && err == api.OK && bytes.Equal(b, j.next) && errM == api.OK && errW == api.ErrFrameForm
			}
			done <- right
		}()
	}
	for range l {
		if !<-done {
			t.Error("another patch")
		}
	}
}
