package edit_test

import (
	"bytes"
	"math"
	"slices"
	"testing"

	"sapper/api"
	"sapper/edit"
)

// refused: each call that is given the edit answers the error that it has by itself, and nothing else.
func refused(t *testing.T, name string, e api.Edit, want api.Errno) {
	t.Helper()
	zero := func(call string, got api.Edit, err api.Errno) {
		t.Helper()
		if !alikeOf(got, api.Edit{}) || err != want {
			t.Errorf("%s: %s = %d steps, %d and %d bytes, %v, not %v", name, call, len(got.Steps), len(got.Diff), len(got.Extra), err, want)
		}
	}
	good := plain(2, 1, 0)
	far := plain(0, 0, api.MaxImage, 0, 0, 1, 1, 0, 0)
	for _, old := range []int{0, 6, api.MaxImage} {
		for _, n := range []int{0, 6, api.MaxImage} {
			zero("Check", api.Edit{}, edit.Check(e, old, n))
		}
	}
	n, err := edit.Size(e)
	if n != 0 {
		t.Errorf("%s: Size = %d", name, n)
	}
	zero("Size", api.Edit{}, err)
	b, err := edit.Apply([]byte("abcdef"), e)
	zero("Apply", api.Edit{Diff: b}, err)
	got, err := edit.Normal(e)
	zero("Normal", got, err)
	for _, other := range []api.Edit{good, far, plain(99, 0, 0), {}} {
		got, err = edit.Compose(e, other)
		zero("Compose first", got, err)
		got, err = edit.Compose(other, e)
		zero("Compose second", got, err)
		got, err = edit.Join(other, e)
		zero("Join second", got, err)
		got, err = edit.Join(e, other)
		zero("Join first", got, err)
	}
	for _, other := range []api.Edit{{Steps: steps(1, 0, 0)}, {Steps: steps(0, 0, math.MinInt)}} {
		got, err = edit.Compose(e, other)
		zero("Compose ahead of a wrong one", got, err)
		got, err = edit.Join(good, e, other)
		zero("Join ahead of a wrong one", got, err)
	}
	got, err = edit.Reverse([]byte("abcdef"), e)
	zero("Reverse", got, err)
	s, err := edit.Tell(e)
	if s != (edit.Stat{}) {
		t.Errorf("%s: Tell = %v", name, s)
	}
	zero("Tell", api.Edit{}, err)
	got, err = edit.Join(e)
	zero("Join", got, err)
}

// P16.1, P16.4 (a step may be): Add, Copy and Seek at the ends of what may be and beyond.
func TestStepsMayBe(t *testing.T) {
	for _, v := range []int{0, 1, api.MaxImage - 1, api.MaxImage} {
		for _, e := range []api.Edit{plain(v, 0, 0), plain(0, v, 0)} {
			if n, err := edit.Size(e); n != v || err != api.OK {
				t.Errorf("Size of %v = %d, %v", e.Steps, n, err)
			}
			if err := edit.Check(e, api.MaxImage, v); err != api.OK {
				t.Errorf("Check of %v = %v", e.Steps, err)
			}
		}
		for _, seek := range []int{v, -v} {
			if n, err := edit.Size(plain(0, 0, seek)); n != 0 || err != api.OK {
				t.Errorf("Size of {0, 0, %d} = %d, %v", seek, n, err)
			}
			if e, err := edit.Make(nil, nil, api.Step{Seek: seek}); !alikeOf(e, plain(0, 0, seek)) || err != api.OK {
				t.Errorf("Make of {0, 0, %d} = %v, %v", seek, e, err)
			}
		}
	}
	var wrong []api.Step
	for _, v := range []int{-1, api.MaxImage + 1, -api.MaxImage, -api.MaxImage - 1, math.MinInt, math.MinInt + 1, math.MaxInt, math.MaxInt - 1} {
		wrong = append(wrong, steps(v, 0, 0, 0, v, 0)...)
		if v < -api.MaxImage || v > api.MaxImage {
			wrong = append(wrong, steps(0, 0, v)...)
		}
	}
	for _, s := range wrong {
		for name, l := range map[string][]api.Step{"alone": {s}, "last": {{Add: 3}, s}, "first": {s, {Add: 3}}, "twice": {s, s}} {
			refused(t, name, api.Edit{Steps: l}, api.ErrEditStep)
			refused(t, name, api.Edit{Steps: l, Diff: make([]byte, 3)}, api.ErrEditStep)
			refused(t, name, api.Edit{Steps: l, Diff: make([]byte, 7), Extra: make([]byte, 2)}, api.ErrEditStep)
			for _, next := range []string{"", "abc", "abcdef"} {
				if e, err := edit.Make([]byte("ab"), []byte(next), l...); !alikeOf(e, api.Edit{}) || err != api.ErrEditStep {
					t.Errorf("Make of %v = %v, %v", l, e, err)
				}
			}
		}
	}
}

// R1, R6: steps at the ends of what an int may be, whose sums go beyond it, and would come back to what there is.
func TestSumsBeyond(t *testing.T) {
	for _, l := range [][]int{
		{math.MaxInt, 0, 0, math.MaxInt, 0, 0, 2, 0, 0},
		{math.MinInt, 0, 0, math.MinInt, 0, 0},
		{0, math.MaxInt, 0, 0, math.MaxInt, 0, 0, 2, 0},
		{0, math.MinInt, 0, 0, math.MinInt, 0},
		{math.MaxInt, 1, 0, math.MinInt, 0, 0},
		{math.MinInt, math.MinInt, 0},
		{0, 0, math.MaxInt, 0, 0, math.MaxInt, 0, 0, 2},
		{0, 0, math.MinInt, 0, 0, math.MinInt},
		{2, 0, math.MaxInt, 1, 0, math.MinInt},
		{3, 0, 0, -1, 0, 0, 1, 0, 0},
		{math.MaxInt, math.MaxInt, math.MaxInt, math.MinInt, math.MinInt, math.MinInt},
	} {
		refused(t, "sums", api.Edit{Steps: steps(l...)}, api.ErrEditStep)
		refused(t, "sums", api.Edit{Steps: steps(l...), Diff: make([]byte, 3)}, api.ErrEditStep)
		for _, next := range []string{"", "a", "abc"} {
			if e, err := edit.Make([]byte("abc"), []byte(next), steps(l...)...); !alikeOf(e, api.Edit{}) || err != api.ErrEditStep {
				t.Errorf("Make of %v = %v, %v", l, e, err)
			}
		}
	}
}

// P16.1 (an edit holds together): sums of Adds, of Copies and of both that are just MaxImage and one more.
func TestSumsMayBe(t *testing.T) {
	const most, half = api.MaxImage, api.MaxImage / 2
	for _, c := range []struct {
		l    []int
		want api.Errno
	}{
		{[]int{half, 0, -half, half, 0, 0}, api.OK},
		{[]int{half, 0, -half, half + 1, 0, 0}, api.ErrEditSize},
		{[]int{1, 0, 0, most, 0, 0}, api.ErrEditSize},
		{[]int{0, half, 0, 0, half, 0}, api.OK},
		{[]int{0, half + 1, 0, 0, half, 0}, api.ErrEditSize},
		{[]int{0, most, 0, 0, 1, 0}, api.ErrEditSize},
		{[]int{half, half, 0}, api.OK},
		{[]int{half, half + 1, 0}, api.ErrEditSize},
		{[]int{half + 1, half, 0}, api.ErrEditSize},
		{[]int{most, 0, 0, 0, 1, 0}, api.ErrEditSize},
		{[]int{1, most, 0}, api.ErrEditSize},
		{[]int{most, most, 0}, api.ErrEditSize},
		{[]int{most - 1, 0, 0, 0, 1, 0}, api.OK},
		{[]int{1, most - 1, 0}, api.OK},
	} {
		e := plain(c.l...)
		if c.want != api.OK {
			refused(t, "sums", e, c.want)
			continue
		}
		if n, err := edit.Size(e); n != most || err != api.OK {
			t.Errorf("Size of %v = %d, %v", c.l, n, err)
		}
		if err := edit.Check(e, most, most); err != api.OK {
			t.Errorf("Check of %v = %v", c.l, err)
		}
		if _, err := edit.Normal(e); err != api.OK {
			t.Errorf("Normal of %v = %v", c.l, err)
		}
	}
	many := make([]api.Step, 1000)
	for i := range many {
		many[i] = api.Step{Add: most, Copy: most, Seek: most}
	}
	refused(t, "far more", api.Edit{Steps: many}, api.ErrEditSize)
	if _, err := edit.Make(nil, nil, many...); err != api.ErrEditSize {
		t.Error("Make of far more:", err)
	}
}

// P16.1 (an edit holds together): Diff or Extra a byte too long or too short; both wrong, but right together.
func TestBytesThatAreNot(t *testing.T) {
	for _, e := range []api.Edit{first(), plain(3, 0, 0), plain(0, 3, 0), plain(1, 1, 5), {}, plain(0, 0, 1)} {
		for i, b := range bent(e)[1:] {
			refused(t, "bent", b, api.ErrEditSize)
			if want := byItself(b); want != api.ErrEditSize {
				t.Errorf("%v, bent %d: the chapter's words say %v", e, i, want)
			}
		}
	}
	refused(t, "no steps", api.Edit{Diff: make([]byte, 1)}, api.ErrEditSize)
	refused(t, "no steps", api.Edit{Extra: make([]byte, api.MaxImage+1)}, api.ErrEditSize)
	refused(t, "turned about", api.Edit{Steps: steps(3, 2, 0), Diff: make([]byte, 2), Extra: make([]byte, 3)}, api.ErrEditSize)
}

// P16.2, P16.3, P16.11: old and next of one byte more than MaxImage, whatever else is wrong; and of just as many.
func TestTooLong(t *testing.T) {
	long := make([]byte, api.MaxImage+1)
	most := long[:api.MaxImage]
	for _, e := range []api.Edit{first(), {}, {Steps: steps(-1, 0, 0)}, {Steps: steps(1, 0, 0)}, plain(0, 0, -1, 1, 0, 0)} {
		if b, err := edit.Apply(long, e); len(b) != 0 || err != api.ErrArg {
			t.Errorf("Apply(too long, %v) = %v, %v", e, b, err)
		}
		if back, err := edit.Reverse(long, e); !alikeOf(back, api.Edit{}) || err != api.ErrArg {
			t.Errorf("Reverse(too long, %v) = %v, %v", e, back, err)
		}
		for _, c := range [][2][]byte{{long, []byte("abdxyef")}, {[]byte("abcdef"), long}, {long, long}, {long, nil}, {nil, long}} {
			if got, err := edit.Make(c[0], c[1], e.Steps...); !alikeOf(got, api.Edit{}) || err != api.ErrArg {
				t.Errorf("Make(%d bytes, %d bytes, %v) = %v, %v", len(c[0]), len(c[1]), e.Steps, got, err)
			}
		}
	}
	if b, err := edit.Apply(most, first()); !bytes.Equal(b, []byte{0, 0, 1, 'x', 'y', 0, 0}) || err != api.OK {
		t.Error("Apply of MaxImage bytes:", b, err)
	}
	if back, err := edit.Reverse(most, first()); !slices.Equal(back.Steps, steps(3, 1, 2, 2, api.MaxImage-6, 0)) || err != api.OK {
		t.Error("Reverse of MaxImage bytes:", back.Steps, err)
	}
	if e, err := edit.Make(most, most, steps(api.MaxImage, 0, 0)...); !alikeOf(e, plain(api.MaxImage, 0, 0)) || err != api.OK {
		t.Error("Make of MaxImage bytes:", len(e.Diff), err)
	}
	if e, err := edit.Make(most, long, steps(api.MaxImage, 1, 0)...); !alikeOf(e, api.Edit{}) || err != api.ErrArg {
		t.Error("Make of one byte more:", len(e.Diff), err)
	}
}

// R2: which error comes first where several hold.
func TestWhichFirst(t *testing.T) {
	old := []byte("abcdef")
	stepAndSize := api.Edit{Steps: steps(7, 0, 0, 0, 0, api.MaxImage+1)}  // and it would read outside
	sizeAndRead := api.Edit{Steps: steps(7, 0, 0), Diff: make([]byte, 6)} // a byte too short
	longAndRead := api.Edit{Steps: steps(7, 0, 0), Diff: make([]byte, 8)} // a byte too long
	fitAndStep := plain(0, 0, api.MaxImage, 0, 0, api.MaxImage, 1, 0, 0)  // reads outside, and too far
	far := plain(0, 0, api.MaxImage, 0, 0, 1, 1, 0, 0)                    // too far alone
	errs := func(l ...api.Errno) []api.Errno { return l }                 // what was answered
	check := func(e api.Edit, old, n int) api.Errno { return edit.Check(e, old, n) }
	apply := func(e api.Edit) api.Errno { _, err := edit.Apply(old, e); return err }
	reverse := func(e api.Edit) api.Errno { _, err := edit.Reverse(old, e); return err }
	build := func(next string, l ...int) api.Errno {
		_, err := edit.Make(old, []byte(next), steps(l...)...)
		return err
	}
	compose := func(a, b api.Edit) api.Errno { _, err := edit.Compose(a, b); return err }
	join := func(l ...api.Edit) api.Errno { _, err := edit.Join(l...); return err }
	for _, c := range []struct {
		name      string
		got, want []api.Errno
	}{
		{"Check: ErrArg ahead of all", errs(check(stepAndSize, -1, 7), check(stepAndSize, 6, -1), check(sizeAndRead, -1, 6), check(sizeAndRead, 6, api.MaxImage+1)), errs(api.ErrArg, api.ErrArg, api.ErrArg, api.ErrArg)},
		{"Check: ErrEditStep ahead of ErrEditSize", errs(check(stepAndSize, 6, 7), check(stepAndSize, 6, 8), check(stepAndSize, 0, 0)), errs(api.ErrEditStep, api.ErrEditStep, api.ErrEditStep)},
		{"Check: ErrEditSize ahead of ErrEditRead", errs(check(sizeAndRead, 6, 6), check(sizeAndRead, 6, 7), check(longAndRead, 6, 7), check(plain(7, 0, 0), 6, 6)), errs(api.ErrEditSize, api.ErrEditSize, api.ErrEditSize, api.ErrEditSize)},
		{"Check: ErrEditRead", errs(check(plain(7, 0, 0), 6, 7), check(fitAndStep, 6, 1)), errs(api.ErrEditRead, api.ErrEditRead)},
		{"Apply", errs(apply(stepAndSize), apply(sizeAndRead), apply(longAndRead), apply(fitAndStep)), errs(api.ErrEditStep, api.ErrEditSize, api.ErrEditSize, api.ErrEditRead)},
		{"Reverse", errs(reverse(stepAndSize), reverse(sizeAndRead), reverse(longAndRead), reverse(fitAndStep)), errs(api.ErrEditStep, api.ErrEditSize, api.ErrEditSize, api.ErrEditRead)},
		{"Make", errs(build("abcdefg", 8, 0, 0, 0, -1, 0), build("abcdef", 7, 0, 0), build("abcdefgh", 7, 0, 0), build("abcdefg", 7, 0, 0)), errs(api.ErrEditStep, api.ErrEditSize, api.ErrEditSize, api.ErrEditRead)},
		{"Compose: a ahead of b", errs(compose(sizeAndRead, stepAndSize), compose(stepAndSize, sizeAndRead)), errs(api.ErrEditSize, api.ErrEditStep)},
		{"Compose: b ahead of ErrEditFit", errs(compose(plain(1, 0, 0), stepAndSize), compose(plain(1, 0, 0), sizeAndRead)), errs(api.ErrEditStep, api.ErrEditSize)},
		{"Compose: ErrEditFit ahead of Normal's", errs(compose(plain(1, 0, 0), fitAndStep), compose(far, plain(1, 0, 0, 1, 0, 0)), compose(far, plain(1, 0, 0))), errs(api.ErrEditFit, api.ErrEditFit, api.ErrEditStep)},
		{"Join: one ahead of the other", errs(join(sizeAndRead, stepAndSize), join(stepAndSize, sizeAndRead), join(far, sizeAndRead), join(far, far)), errs(api.ErrEditSize, api.ErrEditStep, api.ErrEditSize, api.ErrEditStep)},
	} {
		if !slices.Equal(c.got, c.want) {
			t.Errorf("%s: %v, not %v", c.name, c.got, c.want)
		}
	}
}

// roomy: the same, with room behind it that holds others; and all of it.
func roomy[T any](l []T, other T) ([]T, []T) {
	all := append(slices.Clone(l), other, other, other)
	return all[:len(l):len(all)], all
}

// lent: an edit whose lists have room behind them; and whether all of it is as it was.
func lent(e api.Edit) (api.Edit, func() bool) {
	l, allSteps := roomy(e.Steps, api.Step{Add: 7, Copy: 8, Seek: 9})
	diff, allDiff := roomy(e.Diff, 77)
	extra, allExtra := roomy(e.Extra, 99)
	wasSteps, wasDiff, wasExtra := slices.Clone(allSteps), slices.Clone(allDiff), slices.Clone(allExtra)
	return api.Edit{Steps: l, Diff: diff, Extra: extra}, func() bool {
		return slices.Equal(allSteps, wasSteps) && bytes.Equal(allDiff, wasDiff) && bytes.Equal(allExtra, wasExtra)
	}
}

// spoil: all of a list, and the room behind it, is written over, and it is appended to.
func spoil[T any](l []T, v T) {
	for i := range l[:cap(l)] {
		l[:cap(l)][i] = v
	}
	_ = append(l, v)
	_ = append(l[:0], v)
}

// spoilEdit: likewise of an edit's lists.
func spoilEdit(e api.Edit) {
	spoil(e.Steps, api.Step{Add: -3, Copy: -4, Seek: -5})
	spoil(e.Diff, 200)
	spoil(e.Extra, 201)
}

// cloned: an edit as it is now.
func cloned(e api.Edit) api.Edit {
	return api.Edit{Steps: slices.Clone(e.Steps), Diff: slices.Clone(e.Diff), Extra: slices.Clone(e.Extra)}
}

// answers: what the calls that answer edits answer of these, which fit; and the bytes that Apply makes.
func answers(t *testing.T, old, next []byte, a, b api.Edit) ([]api.Edit, []byte) {
	t.Helper()
	var out []api.Edit
	keep := func(e api.Edit, err api.Errno) {
		t.Helper()
		if err != api.OK {
			t.Fatalf("%v, %v, %v: %v", old, a, b, err)
		}
		out = append(out, e)
	}
	keep(edit.Make(old, next, a.Steps...))
	keep(edit.Normal(a))
	keep(edit.Compose(a, b))
	keep(edit.Reverse(old, a))
	keep(edit.Join(a))
	keep(edit.Join(a, a))
	made, err := edit.Apply(old, a)
	if err != api.OK {
		t.Fatalf("Apply(%v, %v): %v", old, a, err)
	}
	edit.Check(a, len(old), len(next))
	edit.Size(a)
	edit.Tell(a)
	edit.Alike(a, b)
	return out, made
}

// R3: bytes, steps and edits that were handed in stay as they were, and so does the room behind them; what was answered hangs neither on them nor on another answer, nor one of its lists on another one.
func TestMemory(t *testing.T) {
	r := rolls(31)
	for range 500 {
		old, allOld := roomy(r.data(r.below(20)), 55)
		a, sameA := lent(r.fit(len(old), r.below(6)))
		next, allNext := roomy(r.data(size(a)), 66)
		b, sameB := lent(r.fit(size(a), r.below(6)))
		wasOld, wasNext := slices.Clone(allOld), slices.Clone(allNext)
		stay := func(when string) {
			t.Helper()
			if !sameA() || !sameB() || !bytes.Equal(allOld, wasOld) || !bytes.Equal(allNext, wasNext) {
				t.Fatalf("%s: what was handed in has changed: %v, %v, %v, %v", when, allOld, allNext, a, b)
			}
		}
		got, made := answers(t, old, next, a, b)
		stay("asked")
		other, otherMade := answers(t, old, next, a, b)
		var want []api.Edit
		for _, e := range got {
			want = append(want, cloned(e))
		}
		wantMade := slices.Clone(made)
		for _, e := range other {
			spoilEdit(e)
		}
		spoil(otherMade, 3)
		stay("answers written over")
		spoil(old, 1)
		spoil(next, 2)
		spoilEdit(a)
		spoilEdit(b)
		for i, e := range got {
			if !alikeOf(e, want[i]) {
				t.Fatalf("answer %d has become %v, and was %v", i, e, want[i])
			}
			spoil(e.Diff, 4)
			if !bytes.Equal(e.Extra, want[i].Extra) {
				t.Fatalf("answer %d: Diff and Extra share memory", i)
			}
			spoil(e.Extra, 5)
			if bytes.Contains(e.Diff, []byte{5}) {
				t.Fatalf("answer %d: Extra and Diff share memory", i)
			}
		}
		if !bytes.Equal(made, wantMade) {
			t.Fatalf("the bytes have become %v, and were %v", made, wantMade)
		}
	}
}

// R3, R4: nil and empty lists are the same, and what is answered hangs on no capacity and on nothing that was asked ahead.
func TestNilAndRoom(t *testing.T) {
	empty := api.Edit{Steps: []api.Step{}, Diff: []byte{}, Extra: []byte{}}
	for _, none := range []api.Edit{{}, empty} {
		for _, old := range [][]byte{nil, {}} {
			holdApply(t, old, none)
			holdMake(t, old, nil, none.Steps)
			holdMake(t, nil, old, none.Steps)
			holdReverse(t, old, none)
		}
		holdCheck(t, none, 0, 0)
		holdNormal(t, none)
		holdCompose(t, none, empty)
		holdCompose(t, api.Edit{}, none)
		holdTell(t, none)
		holdJoin(t, none, none)
	}
	holdJoin(t, []api.Edit{}...)
	r := rolls(32)
	for range 500 {
		old := r.data(r.below(20))
		e := r.any(len(old))
		roomier, _ := lent(e)
		holdApply(t, old, roomier)
		holdCheck(t, roomier, len(old), size(e))
		holdMake(t, old, r.data(size(e)), roomier.Steps)
		holdNormal(t, roomier)
		holdCompose(t, roomier, roomier)
		holdReverse(t, old, roomier)
		holdTell(t, roomier)
		holdJoin(t, roomier, e)
		if !edit.Alike(roomier, e) {
			t.Fatalf("%v is not alike with room behind it", e)
		}
	}
}
