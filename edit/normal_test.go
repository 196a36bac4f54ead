package edit_test

import (
	"testing"

	"sapper/api"
	"sapper/edit"
)

// holdNormal: Normal against the chapter's words.
func holdNormal(t *testing.T, e api.Edit) {
	t.Helper()
	got, err := edit.Normal(e)
	if want, wantErr := normalOf(e); !alikeOf(got, want) || err != wantErr {
		t.Fatalf("Normal(%v) = %v, %v, not %v, %v", e, got, err, want, wantErr)
	}
}

// holdCompose: Compose against the chapter's words.
func holdCompose(t *testing.T, a, b api.Edit) {
	t.Helper()
	got, err := edit.Compose(a, b)
	if want, wantErr := composeOf(a, b); !alikeOf(got, want) || err != wantErr {
		t.Fatalf("Compose(%v, %v) = %v, %v, not %v, %v", a, b, got, err, want, wantErr)
	}
}

// holdJoin: Join against the chapter's words.
func holdJoin(t *testing.T, l ...api.Edit) {
	t.Helper()
	got, err := edit.Join(l...)
	if want, wantErr := joinOf(l); !alikeOf(got, want) || err != wantErr {
		t.Fatalf("Join(%v) = %v, %v, not %v, %v", l, got, err, want, wantErr)
	}
}

// P16.4: the chapter's example 4, and the edges, written out. The bytes of Diff and Extra stay as they are.
func TestNormalEdges(t *testing.T) {
	const far = api.MaxImage
	for _, c := range []struct {
		name    string
		l, want []int
		err     api.Errno
	}{
		{"example 4: goes on", []int{1, 0, 0, 2, 0, 0}, []int{3, 0, 0}, api.OK},
		{"example 4: first FROM 4", []int{0, 0, 4, 1, 0, 0}, []int{0, 0, 4, 1, 0, 0}, api.OK},
		{"example 4: copies on the way", []int{1, 0, 3, 0, 2, 1, 1, 0, 9}, []int{1, 2, 4, 1, 0, 0}, api.OK},
		{"no steps", nil, nil, api.OK},
		{"a step that makes nothing", []int{0, 0, 0}, nil, api.OK},
		{"steps that make nothing", []int{0, 0, 5, 0, 0, -5, 0, 0, 7}, nil, api.OK},
		{"steps that make nothing, too far", []int{0, 0, far, 0, 0, far}, nil, api.OK},
		{"normal already", []int{3, 2, 1, 2, 0, 0}, []int{3, 2, 1, 2, 0, 0}, api.OK},
		{"three that go on", []int{1, 0, 0, 1, 0, 0, 1, 0, 0}, []int{3, 0, 0}, api.OK},
		{"goes on behind steps that lead there and back", []int{1, 0, 5, 0, 0, -9, 0, 0, 4, 1, 0, 0}, []int{2, 0, 0}, api.OK},
		{"goes on, but behind a copy", []int{1, 1, 0, 1, 0, 0}, []int{1, 1, 0, 1, 0, 0}, api.OK},
		{"copies that go on", []int{0, 1, 4, 0, 2, -4, 0, 1, 0}, []int{0, 4, 0}, api.OK},
		{"copies that go on behind an add", []int{2, 1, 4, 0, 2, 9}, []int{2, 3, 0}, api.OK},
		{"a copy first, then FROM 0", []int{0, 2, 0, 1, 0, 0}, []int{0, 2, 0, 1, 0, 0}, api.OK},
		{"a copy first, then FROM 3", []int{0, 2, 3, 1, 0, 0}, []int{0, 2, 3, 1, 0, 0}, api.OK},
		{"a place, then a copy first", []int{0, 0, 3, 0, 2, 0, 1, 0, 0}, []int{0, 2, 3, 1, 0, 0}, api.OK},
		{"steps that make nothing between others", []int{2, 0, 1, 0, 0, 0, 0, 0, 2, 2, 0, 0}, []int{2, 0, 3, 2, 0, 0}, api.OK},
		{"steps that make nothing at the end", []int{2, 0, 1, 0, 0, 9}, []int{2, 0, 0}, api.OK},
		{"a last Seek", []int{2, 1, 7}, []int{2, 1, 0}, api.OK},
		{"a last Seek back", []int{2, 0, -7}, []int{2, 0, 0}, api.OK},
		{"first FROM -3", []int{0, 0, -3, 2, 0, 0}, []int{0, 0, -3, 2, 0, 0}, api.OK},
		{"first FROM -3, by two", []int{0, 0, -1, 0, 0, -2, 2, 0, 0}, []int{0, 0, -3, 2, 0, 0}, api.OK},
		{"first FROM 0, by two", []int{0, 0, -1, 0, 0, 1, 2, 0, 0}, []int{2, 0, 0}, api.OK},
		{"over the beginning", []int{0, 0, -1, 1, 0, 0, 1, 0, 0}, []int{0, 0, -1, 2, 0, 0}, api.OK},
		{"the same byte again", []int{1, 0, -1, 1, 0, -1, 1, 0, 0}, []int{1, 0, -1, 1, 0, -1, 1, 0, 0}, api.OK},
		{"just as far", []int{0, 0, far, 1, 0, 0}, []int{0, 0, far, 1, 0, 0}, api.OK},
		{"just as far back", []int{0, 0, -far, 1, 0, 0}, []int{0, 0, -far, 1, 0, 0}, api.OK},
		{"just as far, by two", []int{0, 0, far - 1, 0, 0, 1, 1, 0, 0}, []int{0, 0, far, 1, 0, 0}, api.OK},
		{"too far, by two", []int{0, 0, far, 0, 0, 1, 1, 0, 0}, nil, api.ErrEditStep},
		{"too far back, by two", []int{0, 0, -1, 0, 0, -far, 1, 0, 0}, nil, api.ErrEditStep},
		{"too far behind an add", []int{2, 0, far, 0, 0, 1, 1, 0, 0}, nil, api.ErrEditStep},
		{"too far behind a copy", []int{0, 2, far, 0, 2, 1, 1, 0, 0}, nil, api.ErrEditStep},
		{"too far back behind an add", []int{2, 0, -far, 0, 0, -1, 1, 0, 0}, nil, api.ErrEditStep},
		{"too far, and nothing is read there", []int{2, 0, far, 0, 2, far}, []int{2, 2, 0}, api.OK},
		{"too far, and back", []int{2, 0, far, 0, 0, far, 0, 0, -far, 0, 0, 1 - far, 1, 0, 0}, []int{2, 0, 1, 1, 0, 0}, api.OK},
		{"far, and far again from there", []int{1, 0, far, 1, 0, far, 1, 0, 0}, []int{1, 0, far, 1, 0, far, 1, 0, 0}, api.OK},
	} {
		e := plain(c.l...)
		for i := range e.Diff {
			e.Diff[i] = byte(i + 1)
		}
		for i := range e.Extra {
			e.Extra[i] = byte(i + 101)
		}
		want := api.Edit{Steps: steps(c.want...), Diff: e.Diff, Extra: e.Extra}
		if c.err != api.OK {
			want = api.Edit{}
		}
		if got, err := edit.Normal(e); !alikeOf(got, want) || err != c.err {
			t.Errorf("%s: Normal(%v) = %v, %v, not %v, %v", c.name, c.l, got, err, want, c.err)
		}
		holdNormal(t, e)
	}
}

// P16.4: of all short edits, bent ones among them, and drawn ones.
func TestNormalOfAll(t *testing.T) {
	for _, e := range short() {
		for _, b := range bent(e) {
			holdNormal(t, b)
		}
	}
	r := rolls(4)
	for range 6000 {
		holdNormal(t, r.fit(r.below(40), r.below(12)))
		holdNormal(t, r.any(r.below(40)))
	}
}

// P16.5: the chapter's example 5, and 8.
func TestComposeExamples(t *testing.T) {
	b := api.Edit{Steps: steps(0, 1, 2, 4, 0, 0), Diff: []byte{0, 0, 1, 0}, Extra: []byte("Q")}
	want := api.Edit{Steps: steps(0, 1, 2, 1, 2, 1, 1, 0, 0), Diff: []byte{1, 0}, Extra: []byte("Qxz")}
	c, err := edit.Compose(first(), b)
	if !alikeOf(c, want) || err != api.OK {
		t.Error("Compose:", c, err)
	}
	if made, err := edit.Apply([]byte("abcdef"), c); string(made) != "Qdxze" || err != api.OK {
		t.Errorf("Apply: %q, %v", made, err)
	}
	if c, err := edit.Compose(first(), plain(0, 0, 7, 1, 0, 0)); !alikeOf(c, api.Edit{}) || err != api.ErrEditFit {
		t.Error("Compose of one that reads the byte 7:", c, err)
	}
}

// P16.5: b reads just all and one byte more than a makes; a byte of b comes of Extra and of Diff; edits of no bytes.
func TestComposeEdges(t *testing.T) {
	const far = api.MaxImage
	a := api.Edit{Steps: steps(2, 2, 3, 1, 0, 0), Diff: []byte{1, 255, 9}, Extra: []byte{200, 3}} // FROM 0 with 1, FROM 1 with 255, OWN 200, OWN 3, FROM 5 with 9
	high := plain(0, 0, far, 1, 0, far-1, 0, 0, 1, 1, 0, 0)                                       // FROM far, FROM 2 far + 1: the Seek between them is just far
	for _, c := range []struct {
		name string
		a, b api.Edit
		want api.Edit
		err  api.Errno
	}{
		{"just all", a, plain(5, 0, 0), a, api.OK},
		{"one byte more", a, plain(6, 0, 0), api.Edit{}, api.ErrEditFit},
		{"the last byte", a, plain(0, 0, 4, 1, 0, 0), api.Edit{Steps: steps(0, 0, 5, 1, 0, 0), Diff: []byte{9}}, api.OK},
		{"one beyond it", a, plain(0, 0, 5, 1, 0, 0), api.Edit{}, api.ErrEditFit},
		{"place -1", a, plain(0, 0, -1, 1, 0, 0), api.Edit{}, api.ErrEditFit},
		{"far outside, where nothing is read", a, plain(0, 0, -far, 0, 1, far, 1, 0, far), api.Edit{Steps: steps(0, 1, 0, 1, 0, 0), Diff: []byte{1}, Extra: []byte{0}}, api.OK},
		{"of Extra, with a Diff", a, api.Edit{Steps: steps(0, 0, 2, 1, 0, 0), Diff: []byte{100}}, api.Edit{Steps: steps(0, 1, 0), Extra: []byte{44}}, api.OK},
		{"of Diff, with a Diff", a, api.Edit{Steps: steps(0, 0, 1, 1, 0, 0), Diff: []byte{2}}, api.Edit{Steps: steps(0, 0, 1, 1, 0, 0), Diff: []byte{1}}, api.OK},
		{"of both, twice, and one of its own between", a, api.Edit{Steps: steps(0, 0, 1, 2, 1, -2, 2, 0, 0), Diff: []byte{0, 1, 2, 3}, Extra: []byte{77}}, api.Edit{Steps: steps(0, 0, 1, 1, 2, -1, 1, 1, 0), Diff: []byte{255, 1}, Extra: []byte{201, 77, 203}}, api.OK},
		{"turned about", a, plain(0, 0, 4, 1, 0, -5, 1, 0, 0), api.Edit{Steps: steps(0, 0, 5, 1, 0, -6, 1, 0, 0), Diff: []byte{9, 1}}, api.OK},
		{"parts far from one another in a become one", plain(1, 0, 4, 1, 0, -5, 1, 0, 0), plain(1, 0, 1, 1, 0, 0), plain(2, 0, 0), api.OK},
		{"b of no bytes", a, api.Edit{}, api.Edit{}, api.OK},
		{"b of steps that make nothing", a, plain(0, 0, 99), api.Edit{}, api.OK},
		{"a of no bytes", api.Edit{}, plain(0, 2, 0), plain(0, 2, 0), api.OK},
		{"a of no bytes, and b reads one", api.Edit{}, plain(1, 0, 0), api.Edit{}, api.ErrEditFit},
		{"both of no bytes", api.Edit{}, api.Edit{}, api.Edit{}, api.OK},
		{"both of steps that make nothing", plain(0, 0, 3), plain(0, 0, -3), api.Edit{}, api.OK},
		{"a reads outside of all, b does not take it", plain(0, 0, -9, 1, 0, 9, 1, 0, 0), plain(0, 0, 1, 1, 0, 0), plain(0, 0, 1, 1, 0, 0), api.OK},
		{"the Seek between two bytes is just far enough", high, plain(2, 0, 0), plain(0, 0, far, 1, 0, far, 1, 0, 0), api.OK},
		{"the second byte alone is too far", high, plain(0, 0, 1, 1, 0, 0), api.Edit{}, api.ErrEditStep},
		{"from the second byte back to the first it is too far", high, plain(1, 0, 0, 1, 0, -2, 1, 0, 0), api.Edit{}, api.ErrEditStep},
	} {
		if got, err := edit.Compose(c.a, c.b); !alikeOf(got, c.want) || err != c.err {
			t.Errorf("%s: Compose(%v, %v) = %v, %v, not %v, %v", c.name, c.a, c.b, got, err, c.want, c.err)
		}
		holdCompose(t, c.a, c.b)
	}
}

// P16.5: of all pairs of small edits; of short ones and drawn ones, bent ones among them.
func TestComposeOfAll(t *testing.T) {
	for _, a := range brief() {
		for _, b := range brief() {
			holdCompose(t, a, b)
		}
	}
	r := rolls(5)
	for _, a := range short() {
		n := len(a.Diff) + len(a.Extra)
		holdCompose(t, a, r.fit(n, 1+r.below(4)))
		holdCompose(t, r.fit(4, 1+r.below(4)), a)
		holdCompose(t, a, r.any(n))
		holdCompose(t, r.any(4), a)
	}
	for range 4000 {
		a := r.fit(r.below(40), r.below(12))
		n := len(a.Diff) + len(a.Extra)
		holdCompose(t, a, r.fit(n, r.below(12)))
		holdCompose(t, a, r.any(n+1))
		holdCompose(t, r.any(20), r.any(n))
	}
}

// P16.14: the chapter's example 7; of none, one, two and three; of those that make nothing; where one goes on where the other has ended.
func TestJoinEdges(t *testing.T) {
	const far = api.MaxImage
	twice := api.Edit{Steps: steps(3, 2, 1, 2, 0, -6, 3, 2, 1, 2, 0, 0), Diff: []byte{0, 0, 1, 0, 0, 0, 0, 1, 0, 0}, Extra: []byte("xyxy")}
	for _, c := range []struct {
		name string
		l    []api.Edit
		want api.Edit
		err  api.Errno
	}{
		{"example 7", []api.Edit{first(), first()}, twice, api.OK},
		{"none", nil, api.Edit{}, api.OK},
		{"one", []api.Edit{first()}, first(), api.OK},
		{"one, which is not normal", []api.Edit{plain(1, 0, 0, 2, 0, 5)}, plain(3, 0, 0), api.OK},
		{"one of no steps", []api.Edit{{}}, api.Edit{}, api.OK},
		{"three", []api.Edit{plain(1, 0, 0), plain(0, 1, 0), plain(0, 0, 1, 1, 0, 0)}, plain(1, 1, 0, 1, 0, 0), api.OK},
		{"each begins at place 0", []api.Edit{plain(2, 0, 7), plain(2, 0, 0)}, plain(2, 0, -2, 2, 0, 0), api.OK},
		{"goes on where the one ahead ended", []api.Edit{plain(2, 0, 7), plain(0, 0, 2, 2, 0, 0)}, plain(4, 0, 0), api.OK},
		{"those that make nothing", []api.Edit{plain(0, 0, 5), {}, first(), plain(0, 0, far, 0, 0, far), {}}, first(), api.OK},
		{"copies become one", []api.Edit{plain(1, 2, 0), plain(0, 3, 4)}, plain(1, 5, 0), api.OK},
		{"just as far", []api.Edit{plain(0, 0, 1-far, 1, 0, 0), plain(0, 0, 2, 1, 0, 0)}, plain(0, 0, 1-far, 1, 0, far, 1, 0, 0), api.OK},
		{"too far", []api.Edit{plain(0, 0, 1-far, 1, 0, 0), plain(0, 0, 3, 1, 0, 0)}, api.Edit{}, api.ErrEditStep},
		{"too far by itself", []api.Edit{plain(0, 0, far, 0, 0, 1, 1, 0, 0)}, api.Edit{}, api.ErrEditStep},
		{"the first one is wrong", []api.Edit{{Steps: steps(1, 0, 0)}, {Steps: steps(-1, 0, 0)}}, api.Edit{}, api.ErrEditSize},
		{"the second one is wrong", []api.Edit{first(), {Steps: steps(-1, 0, 0)}, {Steps: steps(1, 0, 0)}}, api.Edit{}, api.ErrEditStep},
		{"the third one is wrong", []api.Edit{first(), first(), {Extra: []byte{1}}}, api.Edit{}, api.ErrEditSize},
		{"one is wrong behind one that is too far", []api.Edit{plain(0, 0, far, 0, 0, 1, 1, 0, 0), {Diff: []byte{1}}}, api.Edit{}, api.ErrEditSize},
	} {
		if got, err := edit.Join(c.l...); !alikeOf(got, c.want) || err != c.err {
			t.Errorf("%s: Join(%v) = %v, %v, not %v, %v", c.name, c.l, got, err, c.want, c.err)
		}
		holdJoin(t, c.l...)
	}
}

// P16.14: sizes that are just MaxImage together, and one more; of three, and where one of them alone is as large.
func TestJoinSizes(t *testing.T) {
	const half = api.MaxImage / 2
	a, b := plain(half, 0, 0), plain(0, half, 0)
	if e, err := edit.Join(a, b); !alikeOf(e, plain(half, half, 0)) || err != api.OK {
		t.Error("just MaxImage:", len(e.Diff), len(e.Extra), err)
	}
	if e, err := edit.Join(a, plain(0, half-1, 0), plain(1, 0, 0)); !alikeOf(e, plain(half, half-1, -half, 1, 0, 0)) || err != api.OK {
		t.Error("just MaxImage, of three:", len(e.Diff), len(e.Extra), err)
	}
	whole, one := plain(0, api.MaxImage, 0), plain(0, 0, api.MaxImage, 0, 0, 1, 1, 0, 0)
	for _, l := range [][]api.Edit{{a, b, plain(0, 1, 0)}, {a, plain(0, half+1, 0)}, {plain(1, 0, 0), whole}, {whole, one}, {one, whole}, {whole, whole, whole}} {
		if e, err := edit.Join(l...); !alikeOf(e, api.Edit{}) || err != api.ErrEditSize {
			t.Error("more than MaxImage:", len(e.Diff), len(e.Extra), err)
		}
	}
	if _, err := edit.Join(whole, whole, api.Edit{Steps: steps(0, 0, -api.MaxImage-1)}); err != api.ErrEditStep {
		t.Error("more than MaxImage, and the last one is wrong:", err)
	}
	if e, err := edit.Join(whole, plain(0, 0, 9)); !alikeOf(e, whole) || err != api.OK {
		t.Error("MaxImage and nothing:", len(e.Diff), len(e.Extra), err)
	}
}

// P16.14: of all pairs of small edits; of short ones and drawn ones, bent ones among them.
func TestJoinOfAll(t *testing.T) {
	for _, a := range brief() {
		for _, b := range brief() {
			holdJoin(t, a, b)
		}
	}
	r := rolls(6)
	for _, a := range short() {
		holdJoin(t, a)
		holdJoin(t, a, r.fit(4, 2), r.any(4))
		holdJoin(t, r.any(4), a)
	}
	for range 3000 {
		var l []api.Edit
		for range r.below(5) {
			l = append(l, r.fit(r.below(30), r.below(6)))
		}
		holdJoin(t, l...)
		holdJoin(t, append(l, r.any(9), r.any(9))...)
	}
}
