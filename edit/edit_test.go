package edit_test

import (
	"bytes"
	"math"
	"testing"

	"sapper/api"
	"sapper/edit"
	"sapper/scan"
	"sapper/suffix"
)

// first: the edit of the chapter's example 1, over "abcdef".
func first() api.Edit {
	return api.Edit{Steps: steps(3, 2, 1, 2, 0, 0), Diff: []byte{0, 0, 1, 0, 0}, Extra: []byte("xy")}
}

// plain: an edit of these steps, which may be, with noughts.
func plain(l ...int) api.Edit {
	out := api.Edit{Steps: steps(l...)}
	for _, s := range out.Steps {
		out.Diff = append(out.Diff, make([]byte, s.Add)...)
		out.Extra = append(out.Extra, make([]byte, s.Copy)...)
	}
	return out
}

// holdCheck: Check and Size against the chapter's words.
func holdCheck(t *testing.T, e api.Edit, old, size int) {
	t.Helper()
	if err, want := edit.Check(e, old, size), checkOf(e, old, size); err != want {
		t.Fatalf("Check(%v, %d, %d) = %v, not %v", e, old, size, err, want)
	}
	n, err := edit.Size(e)
	if want, wantErr := sizeOf(e); n != want || err != wantErr {
		t.Fatalf("Size(%v) = %d, %v, not %d, %v", e, n, err, want, wantErr)
	}
}

// holdApply: Apply against the chapter's words.
func holdApply(t *testing.T, old []byte, e api.Edit) {
	t.Helper()
	b, err := edit.Apply(old, e)
	if want, wantErr := applyOf(old, e); !bytes.Equal(b, want) || err != wantErr {
		t.Fatalf("Apply(%v, %v) = %v, %v, not %v, %v", old, e, b, err, want, wantErr)
	}
}

// holdMake: Make against the chapter's words; and P16.7.
func holdMake(t *testing.T, old, next []byte, l []api.Step) {
	t.Helper()
	e, err := edit.Make(old, next, l...)
	want, wantErr := makeOf(old, next, l)
	if !alikeOf(e, want) || err != wantErr {
		t.Fatalf("Make(%v, %v, %v) = %v, %v, not %v, %v", old, next, l, e, err, want, wantErr)
	}
	if err != api.OK {
		return
	}
	if b, err := edit.Apply(old, e); !bytes.Equal(b, next) || err != api.OK {
		t.Fatalf("Apply(%v, Make(.., %v, %v)) = %v, %v", old, next, l, b, err)
	}
}

// P16.1 to P16.3: the chapter's examples 1 to 3.
func TestExamples(t *testing.T) {
	for i, c := range []struct {
		e    api.Edit
		want string
		err  api.Errno
		size int
		self api.Errno // that it has by itself
	}{
		{first(), "abdxyef", api.OK, 7, api.OK},
		{plain(7, 0, 0), "", api.ErrEditRead, 7, api.OK},
		{api.Edit{Steps: steps(0, 0, -5, 0, 1, 0), Extra: []byte("z")}, "z", api.OK, 1, api.OK},
		{api.Edit{Steps: steps(1, 0, 0)}, "", api.ErrEditSize, 0, api.ErrEditSize},
		{api.Edit{Steps: steps(-1, 0, 0)}, "", api.ErrEditStep, 0, api.ErrEditStep},
	} {
		if b, err := edit.Apply([]byte("abcdef"), c.e); string(b) != c.want || err != c.err {
			t.Errorf("row %d: Apply = %q, %v", i, b, err)
		}
		if n, err := edit.Size(c.e); n != c.size || err != c.self {
			t.Errorf("row %d: Size = %d, %v", i, n, err)
		}
		if err := edit.Check(c.e, 6, c.size); err != c.err {
			t.Errorf("row %d: Check = %v", i, err)
		}
	}
	if e, err := edit.Make([]byte("abcdef"), []byte("abdxyef"), steps(3, 2, 1, 2, 0, 0)...); !alikeOf(e, first()) || err != api.OK {
		t.Error("Make:", e, err)
	}
	if e, err := edit.Make([]byte("a"), []byte("b"), steps(2, 0, 0)...); !alikeOf(e, api.Edit{}) || err != api.ErrEditSize {
		t.Error("Make of another size:", e, err)
	}
	if e, err := edit.Make([]byte("a"), []byte("bc"), steps(2, 0, 0)...); !alikeOf(e, api.Edit{}) || err != api.ErrEditRead {
		t.Error("Make that reads outside:", e, err)
	}
}

// P16.1: old and size at their ends, and the edit's size one more and one less.
func TestCheckEnds(t *testing.T) {
	for _, c := range []struct {
		old, size int
		want      api.Errno
	}{
		{6, 7, api.OK}, {7, 7, api.OK}, {api.MaxImage, 7, api.OK},
		{5, 7, api.ErrEditRead}, {0, 7, api.ErrEditRead},
		{6, 6, api.ErrEditSize}, {6, 8, api.ErrEditSize}, {6, 0, api.ErrEditSize}, {6, api.MaxImage, api.ErrEditSize},
		{0, 0, api.ErrEditSize}, {api.MaxImage, api.MaxImage, api.ErrEditSize}, {5, 6, api.ErrEditSize},
		{-1, 7, api.ErrArg}, {api.MaxImage + 1, 7, api.ErrArg}, {math.MinInt, 7, api.ErrArg}, {math.MaxInt, 7, api.ErrArg},
		{6, -1, api.ErrArg}, {6, api.MaxImage + 1, api.ErrArg}, {6, math.MinInt, api.ErrArg}, {6, math.MaxInt, api.ErrArg},
		{-1, -1, api.ErrArg}, {api.MaxImage + 1, api.MaxImage + 1, api.ErrArg}, {-1, 6, api.ErrArg}, {5, -1, api.ErrArg},
	} {
		if err := edit.Check(first(), c.old, c.size); err != c.want {
			t.Errorf("Check(.., %d, %d) = %v, not %v", c.old, c.size, err, c.want)
		}
		holdCheck(t, first(), c.old, c.size)
	}
	for _, none := range []api.Edit{{}, plain(0, 0, 0), plain(0, 0, -9, 0, 0, 5)} {
		for old, want := range map[int]api.Errno{0: api.OK, 1: api.OK, api.MaxImage: api.OK, -1: api.ErrArg, api.MaxImage + 1: api.ErrArg} {
			if err := edit.Check(none, old, 0); err != want {
				t.Errorf("Check(%v, %d, 0) = %v, not %v", none, old, err, want)
			}
		}
		if err := edit.Check(none, 0, 1); err != api.ErrEditSize {
			t.Errorf("Check(%v, 0, 1) = %v", none, err)
		}
	}
}

// P16.1, P16.2: readings at place -1, at the last byte and one beyond it; places far outside at which nothing is read.
func TestReadings(t *testing.T) {
	old := []byte("abcdef")
	for _, c := range []struct {
		l    []int
		want string
		err  api.Errno
	}{
		{[]int{0, 0, -1, 1, 0, 0}, "", api.ErrEditRead},
		{[]int{0, 0, -1, 0, 0, 1, 1, 0, 0}, "a", api.OK},
		{[]int{0, 0, -1, 7, 0, 0}, "", api.ErrEditRead},
		{[]int{1, 0, -2, 1, 0, 0}, "", api.ErrEditRead},
		{[]int{0, 0, 5, 1, 0, 0}, "f", api.OK},
		{[]int{0, 0, 5, 2, 0, 0}, "", api.ErrEditRead},
		{[]int{0, 0, 6, 1, 0, 0}, "", api.ErrEditRead},
		{[]int{0, 0, 6, 0, 0, 0}, "", api.OK},
		{[]int{0, 0, 6, 0, 0, -1, 1, 0, 0}, "f", api.OK},
		{[]int{6, 0, 0}, "abcdef", api.OK},
		{[]int{6, 0, -6, 6, 0, -6, 1, 0, 0}, "abcdefabcdefa", api.OK},
		{[]int{6, 0, 0, 1, 0, 0}, "", api.ErrEditRead},
		{[]int{6, 0, api.MaxImage, 0, 1, api.MaxImage, 0, 1, -api.MaxImage, 0, 0, -api.MaxImage, 0, 0, -6, 1, 0, 0}, "abcdef\x00\x00a", api.OK},
		{[]int{0, 0, -api.MaxImage, 0, 1, -api.MaxImage, 0, 1, 0}, "\x00\x00", api.OK},
		{[]int{0, 0, -api.MaxImage, 1, 0, 0}, "", api.ErrEditRead},
		{[]int{0, 0, api.MaxImage, 0, 0, api.MaxImage, 1, 0, 0}, "", api.ErrEditRead},
		{[]int{1, 0, api.MaxImage}, "a", api.OK},
		{[]int{1, 0, -api.MaxImage}, "a", api.OK},
	} {
		e := plain(c.l...)
		if b, err := edit.Apply(old, e); string(b) != c.want || err != c.err {
			t.Errorf("Apply(.., %v) = %q, %v, not %q, %v", c.l, b, err, c.want, c.err)
		}
		if err := edit.Check(e, 6, len(e.Diff)+len(e.Extra)); err != c.err {
			t.Errorf("Check(%v) = %v, not %v", c.l, err, c.err)
		}
		if back, err := edit.Reverse(old, e); err != c.err || err != api.OK && !alikeOf(back, api.Edit{}) {
			t.Errorf("Reverse(%v) = %v, %v, not %v", c.l, back, err, c.err)
		}
		next := append([]byte(c.want), make([]byte, len(e.Diff)+len(e.Extra)-len(c.want))...)
		if m, err := edit.Make(old, next, e.Steps...); err != c.err || err == api.OK && !alikeOf(m, e) {
			t.Errorf("Make(%v) = %v, %v, not %v", c.l, m, err, c.err)
		}
	}
}

// P16.2, P16.3: additions, and what Make takes off, go round at 256: of all pairs of bytes.
func TestGoesRound(t *testing.T) {
	for a := range 256 {
		for d := range 256 {
			old, e := []byte{byte(a)}, api.Edit{Steps: steps(1, 0, 0), Diff: []byte{byte(d)}}
			b, err := edit.Apply(old, e)
			if err != api.OK || len(b) != 1 || int(b[0]) != (a+d)%256 {
				t.Fatalf("%d with %d: %v, %v", a, d, b, err)
			}
			if back, err := edit.Make(old, b, e.Steps...); !alikeOf(back, e) || err != api.OK {
				t.Fatalf("Make(%v, %v) = %v, %v", old, b, back, err)
			}
		}
	}
}

// P16.2, P16.3: edits of no steps, of steps that make nothing, of Extra alone, of Diff alone.
func TestSingleKinds(t *testing.T) {
	old := []byte("abcdef")
	for _, c := range []struct {
		e    api.Edit
		want string
	}{
		{api.Edit{}, ""},
		{api.Edit{Steps: []api.Step{}, Diff: []byte{}, Extra: []byte{}}, ""},
		{plain(0, 0, 0), ""},
		{plain(0, 0, 3, 0, 0, -9, 0, 0, api.MaxImage), ""},
		{api.Edit{Steps: steps(0, 3, 0), Extra: []byte("xyz")}, "xyz"},
		{api.Edit{Steps: steps(0, 1, 9, 0, 0, 2, 0, 2, -7), Extra: []byte("xyz")}, "xyz"},
		{api.Edit{Steps: steps(3, 0, 0), Diff: []byte{1, 0, 255}}, "bbb"},
		{api.Edit{Steps: steps(1, 0, 3, 2, 0, -5), Diff: []byte{1, 0, 255}}, "bee"},
	} {
		if b, err := edit.Apply(old, c.e); string(b) != c.want || err != api.OK {
			t.Errorf("Apply(.., %v) = %q, %v, not %q", c.e, b, err, c.want)
		}
		if e, err := edit.Make(old, []byte(c.want), c.e.Steps...); !alikeOf(e, c.e) || err != api.OK {
			t.Errorf("Make(.., %q, %v) = %v, %v, not %v", c.want, c.e.Steps, e, err, c.e)
		}
		if n, err := edit.Size(c.e); n != len(c.want) || err != api.OK {
			t.Errorf("Size(%v) = %d, %v", c.e, n, err)
		}
	}
}

// P16.3: next one byte longer and one byte shorter than the steps say, and steps that make nothing.
func TestMakeSizes(t *testing.T) {
	old := []byte("abcdef")
	for _, c := range []struct {
		next string
		l    []int
		want api.Errno
	}{
		{"", nil, api.OK}, {"a", nil, api.ErrEditSize},
		{"", []int{0, 0, 5}, api.OK}, {"a", []int{0, 0, 5}, api.ErrEditSize},
		{"abdxyef", []int{3, 2, 1, 2, 0, 0}, api.OK}, {"abdxye", []int{3, 2, 1, 2, 0, 0}, api.ErrEditSize}, {"abdxyefg", []int{3, 2, 1, 2, 0, 0}, api.ErrEditSize},
		{"xyz", []int{0, 3, 0}, api.OK}, {"xy", []int{0, 3, 0}, api.ErrEditSize}, {"xyzw", []int{0, 3, 0}, api.ErrEditSize}, {"", []int{0, 3, 0}, api.ErrEditSize},
		{"xyz", []int{3, 0, 0}, api.OK}, {"xy", []int{3, 0, 0}, api.ErrEditSize}, {"xyzw", []int{3, 0, 0}, api.ErrEditSize},
		{"xyz", []int{api.MaxImage, 0, 0}, api.ErrEditSize}, {"xyz", []int{0, api.MaxImage, 0}, api.ErrEditSize},
	} {
		if _, err := edit.Make(old, []byte(c.next), steps(c.l...)...); err != c.want {
			t.Errorf("Make(.., %q, %v) = %v, not %v", c.next, c.l, err, c.want)
		}
		holdMake(t, old, []byte(c.next), steps(c.l...))
	}
}

// P16.1 to P16.3: of all short edits, bent ones among them, over small images.
func TestOfAll(t *testing.T) {
	r := rolls(2)
	for _, e := range short() {
		for _, b := range bent(e) {
			size := len(b.Diff) + len(b.Extra)
			for _, old := range images() {
				holdApply(t, old, b)
				holdCheck(t, b, len(old), size)
			}
			holdCheck(t, b, 6, size+1)
			holdCheck(t, b, 6, size-1)
			holdCheck(t, b, r.below(9), r.below(9))
		}
		size := len(e.Diff) + len(e.Extra)
		old := images()[r.below(len(images()))]
		holdMake(t, old, r.data(size), e.Steps)
		holdMake(t, []byte("abcdef"), r.data(size), e.Steps)
		holdMake(t, old, r.data(size+1), e.Steps)
		holdMake(t, old, r.data(max(0, size-1)), e.Steps)
	}
}

// P16.1 to P16.3, P16.7: of drawn edits over drawn images.
func TestOfDrawn(t *testing.T) {
	r := rolls(3)
	for range 4000 {
		old := r.data(r.below(40))
		for _, e := range []api.Edit{r.fit(len(old), r.below(12)), r.any(len(old))} {
			size := len(e.Diff) + len(e.Extra)
			holdApply(t, old, e)
			holdCheck(t, e, len(old), size)
			holdCheck(t, e, r.below(40), size)
			holdMake(t, old, r.data(size), e.Steps)
			holdMake(t, r.data(r.below(40)), r.data(size), e.Steps)
		}
	}
}

// P16.3, P16.7: of the steps that scan finds between two images (P15.5).
func TestStepsOfScan(t *testing.T) {
	r := rolls(4)
	for range 300 {
		old := r.data(r.below(200))
		next := r.data(r.below(20))
		for range r.below(5) {
			from := r.below(len(old) + 1)
			next = append(next, old[from:from+r.below(len(old)-from+1)]...)
			next = append(next, r.data(r.below(9))...)
		}
		x, err := suffix.New(old)
		if err != api.OK {
			t.Fatal(err)
		}
		l, err := scan.Steps(x, next)
		if err != api.OK {
			t.Fatal(err)
		}
		if _, err := edit.Make(old, next, l...); err != api.OK {
			t.Fatalf("Make(%v, %v, %v): %v", old, next, l, err)
		}
		holdMake(t, old, next, l)
	}
}
