package edit_test

import (
	"bytes"
	"slices"
	"testing"

	"sapper/api"
	"sapper/edit"
)

// holdReverse: Reverse against the chapter's words.
func holdReverse(t *testing.T, old []byte, e api.Edit) {
	t.Helper()
	got, err := edit.Reverse(old, e)
	if want, wantErr := reverseOf(old, e); !alikeOf(got, want) || err != wantErr {
		t.Fatalf("Reverse(%v, %v) = %v, %v, not %v, %v", old, e, got, err, want, wantErr)
	}
}

// holdTell: Tell against the chapter's words.
func holdTell(t *testing.T, e api.Edit) {
	t.Helper()
	got, err := edit.Tell(e)
	if want, wantErr := tellOf(e); got != want || err != wantErr {
		t.Fatalf("Tell(%v) = %v, %v, not %v, %v", e, got, err, want, wantErr)
	}
}

// P16.6: just the steps, just Diff, just Extra are unlike; nil and empty are the same.
func TestAlike(t *testing.T) {
	a := first()
	empty := api.Edit{Steps: []api.Step{}, Diff: []byte{}, Extra: []byte{}}
	roomier := api.Edit{Steps: append(first().Steps, api.Step{})[:2], Diff: append(first().Diff, 1)[:5], Extra: append(first().Extra, 1)[:2]}
	for _, c := range []struct {
		name string
		a, b api.Edit
		want bool
	}{
		{"the same", a, a, true},
		{"as another one", a, first(), true},
		{"with room behind", a, roomier, true},
		{"none", api.Edit{}, api.Edit{}, true},
		{"nil and empty", api.Edit{}, empty, true},
		{"nil and empty steps", api.Edit{Extra: []byte{1}}, api.Edit{Steps: []api.Step{}, Extra: []byte{1}}, true},
		{"one and none", a, api.Edit{}, false},
		{"another Add", a, api.Edit{Steps: steps(2, 2, 1, 2, 0, 0), Diff: a.Diff, Extra: a.Extra}, false},
		{"another Copy", a, api.Edit{Steps: steps(3, 2, 1, 2, 1, 0), Diff: a.Diff, Extra: a.Extra}, false},
		{"another Seek", a, api.Edit{Steps: steps(3, 2, 1, 2, 0, 1), Diff: a.Diff, Extra: a.Extra}, false},
		{"a step more", a, api.Edit{Steps: steps(3, 2, 1, 2, 0, 0, 0, 0, 0), Diff: a.Diff, Extra: a.Extra}, false},
		{"a step less", a, api.Edit{Steps: steps(3, 2, 1), Diff: a.Diff, Extra: a.Extra}, false},
		{"no steps", a, api.Edit{Diff: a.Diff, Extra: a.Extra}, false},
		{"steps in another order", a, api.Edit{Steps: steps(2, 0, 0, 3, 2, 1), Diff: a.Diff, Extra: a.Extra}, false},
		{"another byte of Diff", a, api.Edit{Steps: a.Steps, Diff: []byte{0, 0, 1, 0, 1}, Extra: a.Extra}, false},
		{"a byte of Diff more", a, api.Edit{Steps: a.Steps, Diff: []byte{0, 0, 1, 0, 0, 0}, Extra: a.Extra}, false},
		{"a byte of Diff less", a, api.Edit{Steps: a.Steps, Diff: []byte{0, 0, 1, 0}, Extra: a.Extra}, false},
		{"another byte of Extra", a, api.Edit{Steps: a.Steps, Diff: a.Diff, Extra: []byte("xz")}, false},
		{"a byte of Extra more", a, api.Edit{Steps: a.Steps, Diff: a.Diff, Extra: []byte("xyz")}, false},
		{"no Extra", a, api.Edit{Steps: a.Steps, Diff: a.Diff}, false},
		{"Diff for Extra", api.Edit{Diff: []byte{1}}, api.Edit{Extra: []byte{1}}, false},
		{"the same meaning, other steps", plain(1, 0, 0, 1, 0, 0), plain(2, 0, 0), false},
		{"wrong ones that are the same", api.Edit{Steps: steps(-1, -2, 1<<62)}, api.Edit{Steps: steps(-1, -2, 1<<62)}, true},
		{"wrong ones that are not", api.Edit{Steps: steps(-1, -2, 1<<62)}, api.Edit{Steps: steps(-1, -2, 1<<62+1)}, false},
	} {
		if edit.Alike(c.a, c.b) != c.want || edit.Alike(c.b, c.a) != c.want {
			t.Errorf("%s: Alike(%v, %v) is not %v", c.name, c.a, c.b, c.want)
		}
	}
	all := slices.Concat(brief(), brief(), bent(first()), bent(plain(1, 1, 0)))
	for _, a := range all {
		for _, b := range all {
			if edit.Alike(a, b) != alikeOf(a, b) {
				t.Fatalf("Alike(%v, %v) is not %v", a, b, alikeOf(a, b))
			}
		}
	}
}

// P16.11: the chapter's example 6; a byte of old is taken twice, never, with a diff that is 0 and not.
func TestReverseEdges(t *testing.T) {
	for _, c := range []struct {
		name string
		old  string
		e    api.Edit
		want api.Edit
		err  api.Errno
	}{
		{"example 6", "abcdef", first(), api.Edit{Steps: steps(3, 1, 2, 2, 0, 0), Diff: []byte{0, 0, 255, 0, 0}, Extra: []byte("d")}, api.OK},
		{"no old, no bytes", "", api.Edit{}, api.Edit{}, api.OK},
		{"no old", "", plain(0, 3, 0), api.Edit{}, api.OK},
		{"no bytes", "abc", plain(0, 0, 9), api.Edit{Steps: steps(0, 3, 0), Extra: []byte("abc")}, api.OK},
		{"none of old is taken", "abc", plain(0, 5, 0), api.Edit{Steps: steps(0, 3, 0), Extra: []byte("abc")}, api.OK},
		{"all of it", "abc", plain(3, 0, 0), plain(3, 0, 0), api.OK},
		{"all of it, with a diff", "abc", api.Edit{Steps: steps(3, 0, 0), Diff: []byte{1, 128, 255}}, api.Edit{Steps: steps(3, 0, 0), Diff: []byte{255, 128, 1}}, api.OK},
		{"twice: the first one counts", "ab", api.Edit{Steps: steps(1, 0, -1, 1, 0, 0), Diff: []byte{7, 0}}, api.Edit{Steps: steps(1, 1, 0), Diff: []byte{249}, Extra: []byte("b")}, api.OK},
		{"twice: also where the second one has no diff", "a", api.Edit{Steps: steps(0, 1, 0, 1, 0, -1, 1, 0, 0), Diff: []byte{3, 0}, Extra: []byte("x")}, api.Edit{Steps: steps(0, 0, 1, 1, 0, 0), Diff: []byte{253}}, api.OK},
		{"turned about", "ab", plain(0, 0, 1, 1, 0, -2, 1, 0, 0), plain(0, 0, 1, 1, 0, -2, 1, 0, 0), api.OK},
		{"the last byte alone", "abc", plain(0, 2, 2, 1, 0, 0), api.Edit{Steps: steps(0, 2, 2, 1, 0, 0), Diff: []byte{0}, Extra: []byte("ab")}, api.OK},
		{"an own byte that is the same is no origin", "abc", api.Edit{Steps: steps(0, 3, 0), Extra: []byte("abc")}, api.Edit{Steps: steps(0, 3, 0), Extra: []byte("abc")}, api.OK},
		{"one behind the end is read", "abc", plain(4, 0, 0), api.Edit{}, api.ErrEditRead},
		{"example 1 over a byte", "a", first(), api.Edit{}, api.ErrEditRead},
		{"too short a Diff", "abc", api.Edit{Steps: steps(4, 0, 0), Diff: make([]byte, 3)}, api.Edit{}, api.ErrEditSize},
		{"a wrong step", "abc", api.Edit{Steps: steps(4, 0, 0, 0, -1, 0), Diff: make([]byte, 3)}, api.Edit{}, api.ErrEditStep},
	} {
		if got, err := edit.Reverse([]byte(c.old), c.e); !alikeOf(got, c.want) || err != c.err {
			t.Errorf("%s: Reverse(%q, %v) = %v, %v, not %v, %v", c.name, c.old, c.e, got, err, c.want, c.err)
		}
		holdReverse(t, []byte(c.old), c.e)
	}
}

// P16.11: of all short edits over small images, bent ones among them, and drawn ones.
func TestReverseOfAll(t *testing.T) {
	for _, e := range short() {
		for _, old := range images() {
			holdReverse(t, old, e)
		}
		for _, b := range bent(e) {
			holdReverse(t, []byte("abcdef"), b)
		}
	}
	r := rolls(7)
	for range 4000 {
		old := r.data(r.below(40))
		holdReverse(t, old, r.fit(len(old), r.below(12)))
		holdReverse(t, old, r.any(len(old)))
	}
}

// P16.13: the chapter's example 7; Reach of an edit that reads nothing, ahead of place 0, just the last byte; Jump of Seeks both ways.
func TestTellEdges(t *testing.T) {
	const far = api.MaxImage
	for _, c := range []struct {
		name string
		e    api.Edit
		want edit.Stat
	}{
		{"example 7", first(), edit.Stat{Steps: 2, Added: 5, Same: 4, Copied: 2, Jump: 1, Reach: 6}},
		{"none", api.Edit{}, edit.Stat{}},
		{"steps that make nothing", plain(0, 0, 0, 0, 0, 5, 0, 0, -7), edit.Stat{Steps: 3, Jump: 12}},
		{"reads nothing", plain(0, 3, 9, 0, 1, 0), edit.Stat{Steps: 2, Copied: 4, Jump: 9}},
		{"reads the first byte", plain(1, 0, 0), edit.Stat{Steps: 1, Added: 1, Same: 1, Reach: 1}},
		{"reads ahead of place 0", plain(0, 0, -1, 1, 0, 0), edit.Stat{Steps: 2, Added: 1, Same: 1, Jump: 1}},
		{"reads ahead of place 0 and behind it", plain(0, 0, -1, 5, 0, 0), edit.Stat{Steps: 2, Added: 5, Same: 5, Jump: 1}},
		{"reads behind place 0, then ahead of it", plain(5, 0, -6, 1, 0, 0), edit.Stat{Steps: 2, Added: 6, Same: 6, Jump: 6}},
		{"reads ahead of place 0, then behind it", plain(0, 0, -1, 1, 0, 9, 1, 0, 0), edit.Stat{Steps: 3, Added: 2, Same: 2, Jump: 10}},
		{"goes ahead of place 0, but does not read there", plain(1, 0, -9, 0, 2, 10, 1, 0, 0), edit.Stat{Steps: 3, Added: 2, Same: 2, Copied: 2, Jump: 19, Reach: 3}},
		{"goes beyond, but does not read there", plain(2, 0, 50, 0, 2, 0), edit.Stat{Steps: 2, Added: 2, Same: 2, Copied: 2, Jump: 50, Reach: 2}},
		{"the farthest first", plain(0, 0, 7, 1, 0, -8, 1, 0, 0), edit.Stat{Steps: 3, Added: 2, Same: 2, Jump: 15, Reach: 8}},
		{"just the last byte of MaxImage", plain(0, 0, far-1, 1, 0, 0), edit.Stat{Steps: 2, Added: 1, Same: 1, Jump: far - 1, Reach: far}},
		{"one beyond it", plain(0, 0, far, 1, 0, 0), edit.Stat{Steps: 2, Added: 1, Same: 1, Jump: far, Reach: far + 1}},
		{"far beyond it", plain(0, 0, far, 0, 0, far, 2, 0, -far), edit.Stat{Steps: 3, Added: 2, Same: 2, Jump: 3 * far, Reach: 2*far + 2}},
		{"a last Seek counts", plain(1, 0, -far), edit.Stat{Steps: 1, Added: 1, Same: 1, Jump: far, Reach: 1}},
		{"noughts of Extra are not the same", api.Edit{Steps: steps(3, 2, 0), Diff: []byte{0, 1, 255}, Extra: []byte{0, 0}}, edit.Stat{Steps: 1, Added: 3, Same: 1, Copied: 2, Reach: 3}},
	} {
		if got, err := edit.Tell(c.e); got != c.want || err != api.OK {
			t.Errorf("%s: Tell(%v) = %+v, %v, not %+v", c.name, c.e, got, err, c.want)
		}
	}
	for _, e := range bent(first())[1:] {
		if got, err := edit.Tell(e); got != (edit.Stat{}) || err != api.ErrEditSize {
			t.Errorf("Tell(%v) = %+v, %v", e, got, err)
		}
	}
}

// P16.13: of all short edits, bent ones among them, and drawn ones.
func TestTellOfAll(t *testing.T) {
	for _, e := range short() {
		for _, b := range bent(e) {
			holdTell(t, b)
		}
	}
	r := rolls(8)
	for range 4000 {
		holdTell(t, r.fit(r.below(40), r.below(12)))
		holdTell(t, r.any(r.below(40)))
	}
}

// P16.1, P16.2, P16.13: of edits that make an image of MaxImage bytes of another one.
func TestWhole(t *testing.T) {
	r := rolls(9)
	old := make([]byte, api.MaxImage)
	for i := range old {
		old[i] = byte(r.below(256))
	}
	next := slices.Concat(old[1<<20:], old[:1<<20])
	l := steps(0, 0, 1<<20, api.MaxImage-1<<20, 0, -api.MaxImage, 1<<20-5, 5, 0)
	e, err := edit.Make(old, next, l...)
	if err != api.OK || !slices.Equal(e.Steps, l) || bytes.Count(e.Diff, []byte{0}) != len(e.Diff) || !bytes.Equal(e.Extra, old[1<<20-5:1<<20]) {
		t.Fatal("Make:", len(e.Steps), len(e.Diff), len(e.Extra), err)
	}
	if b, err := edit.Apply(old, e); !bytes.Equal(b, next) || err != api.OK {
		t.Fatal("Apply:", len(b), err)
	}
	if err := edit.Check(e, api.MaxImage, api.MaxImage); err != api.OK {
		t.Fatal("Check:", err)
	}
	if n, err := edit.Normal(e); !alikeOf(n, e) || err != api.OK {
		t.Fatal("Normal:", len(n.Steps), err)
	}
	back, err := edit.Reverse(old, e)
	if want := steps(0, 0, api.MaxImage-1<<20, 1<<20-5, 5, 5-api.MaxImage, api.MaxImage-1<<20, 0, 0); err != api.OK || !slices.Equal(back.Steps, want) {
		t.Fatal("Reverse:", back.Steps, err)
	}
	if b, err := edit.Apply(next, back); !bytes.Equal(b, old) || err != api.OK {
		t.Fatal("Apply of Reverse:", len(b), err)
	}
	there, err := edit.Compose(e, back)
	if want := steps(1<<20-5, 5, 5, api.MaxImage-1<<20, 0, 0); err != api.OK || !slices.Equal(there.Steps, want) {
		t.Fatal("Compose:", there.Steps, err)
	}
	if b, err := edit.Apply(old, there); !bytes.Equal(b, old) || err != api.OK {
		t.Fatal("Apply of Compose:", len(b), err)
	}
	want := edit.Stat{Steps: 3, Added: api.MaxImage - 5, Same: api.MaxImage - 5, Copied: 5, Jump: 1<<20 + api.MaxImage, Reach: api.MaxImage}
	if s, err := edit.Tell(e); s != want || err != api.OK {
		t.Fatal("Tell:", s, err)
	}
}
