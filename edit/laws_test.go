package edit_test

import (
	"bytes"
	"slices"
	"strconv"
	"testing"

	"sapper/api"
	"sapper/edit"
)

// same: the bytes that nothing is added to, n of them.
func same(n int) api.Edit { return plain(n, 0, 0) }

// size: how many bytes an edit that holds together makes.
func size(e api.Edit) int { return len(e.Diff) + len(e.Extra) }

// holdMeaning: P16.8: Normal means the same over old, errors too, and is its own Normal.
func holdMeaning(t *testing.T, old []byte, e api.Edit) {
	t.Helper()
	n, err := edit.Normal(e)
	if err != api.OK {
		return
	}
	b, err := edit.Apply(old, e)
	if got, gotErr := edit.Apply(old, n); !bytes.Equal(got, b) || gotErr != err {
		t.Fatalf("Apply(%v, Normal(%v)) = %v, %v, not %v, %v", old, e, got, gotErr, b, err)
	}
	if again, err := edit.Normal(n); !edit.Alike(again, n) || err != api.OK {
		t.Fatalf("Normal(Normal(%v)) = %v, %v, not %v", e, again, err, n)
	}
	if len(n.Steps) > len(e.Steps) {
		t.Fatalf("Normal(%v) has more steps: %v", e, n.Steps)
	}
}

// P16.8: of all short edits over small images, and drawn ones.
func TestNormalMeansTheSame(t *testing.T) {
	for _, e := range short() {
		for _, old := range images() {
			holdMeaning(t, old, e)
		}
	}
	r := rolls(21)
	for range 4000 {
		old := r.data(r.below(40))
		holdMeaning(t, old, r.fit(len(old), r.below(12)))
		holdMeaning(t, old, r.any(len(old)))
	}
}

// P16.8: of all edits of few small steps whose bytes have the same origins Normal is one and the same, and none has fewer steps.
func TestFewestOfAll(t *testing.T) {
	seen := map[string]api.Edit{}
	for _, e := range short() {
		clear(e.Diff)
		clear(e.Extra)
		n, err := edit.Normal(e)
		if err != api.OK {
			t.Fatalf("Normal(%v): %v", e, err)
		}
		var key []byte
		for _, k := range kindsOf(e) {
			key = strconv.AppendBool(key, k.own)
			key = strconv.AppendInt(key, int64(k.at), 10)
		}
		if other, there := seen[string(key)]; there && !edit.Alike(other, n) {
			t.Fatalf("Normal(%v) = %v, but %v of another one with the same origins", e, n, other)
		}
		seen[string(key)] = n
		if len(n.Steps) > len(e.Steps) {
			t.Fatalf("Normal(%v) = %v", e, n)
		}
	}
}

// P16.8: no fewer steps will do, whichever way the bytes are cut into steps.
func TestFewestOfDrawn(t *testing.T) {
	r := rolls(22)
	for range 1500 {
		e := r.fit(r.below(8), r.below(5))
		n, err := edit.Normal(e)
		if want := leastSteps(kindsOf(e)); err != api.OK || len(n.Steps) != want {
			t.Fatalf("Normal(%v) = %v, %v; %d steps will do", e, n, err, want)
		}
	}
}

// holdComposed: P16.9: Compose of edits that fit leads over what is between.
func holdComposed(t *testing.T, old []byte, a, b api.Edit) {
	t.Helper()
	c, err := edit.Compose(a, b)
	if err != api.OK {
		return
	}
	between, err := edit.Apply(old, a)
	if err != api.OK {
		return
	}
	want, err := edit.Apply(between, b)
	if got, gotErr := edit.Apply(old, c); !bytes.Equal(got, want) || gotErr != err || err != api.OK {
		t.Fatalf("Apply(%v, Compose(%v, %v)) = %v, %v, not %v, %v", old, a, b, got, gotErr, want, err)
	}
}

// holdAssociative: P16.9: of three edits.
func holdAssociative(t *testing.T, a, b, c api.Edit) {
	t.Helper()
	ab, e1 := edit.Compose(a, b)
	bc, e2 := edit.Compose(b, c)
	if e1 != api.OK || e2 != api.OK {
		return
	}
	left, e1 := edit.Compose(ab, c)
	right, e2 := edit.Compose(a, bc)
	if e1 == api.OK && e2 == api.OK && !edit.Alike(left, right) {
		t.Fatalf("%v, %v, %v: %v is not %v", a, b, c, left, right)
	}
}

// P16.9: of all pairs of small edits over small images, of triples among them, and of drawn ones that fit.
func TestComposition(t *testing.T) {
	for _, a := range brief() {
		for _, b := range brief() {
			for _, old := range images() {
				holdComposed(t, old, a, b)
			}
		}
	}
	small := slices.Concat(rowsOf(1, box(2, 1, -1, 1)), rowsOf(2, box(1, 1, 0, 0)))
	r := rolls(23)
	for _, a := range small {
		for _, b := range small {
			for _, c := range small {
				holdAssociative(t, r.full(a), r.full(b), r.full(c))
			}
		}
	}
	for range 3000 {
		old := r.data(r.below(40))
		a := r.fit(len(old), r.below(9))
		b := r.fit(size(a), r.below(9))
		c := r.fit(size(b), r.below(9))
		holdComposed(t, old, a, b)
		holdComposed(t, old, r.any(len(old)), r.any(9))
		holdAssociative(t, a, b, c)
		if _, err := edit.Compose(a, b); err != api.OK {
			t.Fatalf("Compose(%v, %v): %v", a, b, err)
		}
	}
}

// holdSame: P16.10, from either side: n is how many bytes the old image has.
func holdSame(t *testing.T, n int, e api.Edit) {
	t.Helper()
	want, err := edit.Normal(e)
	if err != api.OK {
		return
	}
	if got, err := edit.Compose(e, same(size(e))); !edit.Alike(got, want) || err != api.OK {
		t.Fatalf("Compose(%v, same) = %v, %v, not %v", e, got, err, want)
	}
	if edit.Check(e, n, size(e)) != api.OK {
		return
	}
	if got, err := edit.Compose(same(n), e); !edit.Alike(got, want) || err != api.OK {
		t.Fatalf("Compose(same, %v) = %v, %v, not %v", e, got, err, want)
	}
}

// P16.10: of all short edits, and drawn ones; of no bytes, too.
func TestSameFromEitherSide(t *testing.T) {
	for _, e := range slices.Concat(short(), []api.Edit{{}, plain(0, 0, 5)}) {
		for n := range 7 {
			holdSame(t, n, e)
		}
	}
	r := rolls(24)
	for range 3000 {
		n := r.below(40)
		holdSame(t, n, r.fit(n, r.below(12)))
		if e := r.any(n); byItself(e) == api.OK {
			holdSame(t, n, e)
		}
	}
}

// holdBack: P16.12.
func holdBack(t *testing.T, old []byte, e api.Edit) {
	t.Helper()
	next, err := edit.Apply(old, e)
	if err != api.OK {
		return
	}
	back, err := edit.Reverse(old, e)
	if err != api.OK {
		t.Fatalf("Reverse(%v, %v): %v", old, e, err)
	}
	if b, err := edit.Apply(next, back); !bytes.Equal(b, old) || err != api.OK {
		t.Fatalf("Apply(%v, Reverse(%v, %v)) = %v, %v", next, old, e, b, err)
	}
	both, err := edit.Compose(e, back)
	if err != api.OK {
		t.Fatalf("Compose(%v, Reverse(%v, ..)): %v", e, old, err)
	}
	if b, err := edit.Apply(old, both); !bytes.Equal(b, old) || err != api.OK {
		t.Fatalf("Apply(%v, Compose(%v, Reverse)) = %v, %v", old, e, b, err)
	}
}

// P16.12: there and back, of all short edits over small images, and drawn ones.
func TestThereAndBack(t *testing.T) {
	for _, e := range short() {
		for _, old := range images() {
			holdBack(t, old, e)
		}
	}
	r := rolls(25)
	for range 4000 {
		old := r.data(r.below(40))
		holdBack(t, old, r.fit(len(old), r.below(12)))
		holdBack(t, old, r.any(len(old)))
	}
}

// holdRow: P16.15, of three edits over old.
func holdRow(t *testing.T, old []byte, a, b, c api.Edit) {
	t.Helper()
	n, err := edit.Normal(a)
	if alone, aloneErr := edit.Join(a); !edit.Alike(alone, n) || aloneErr != err {
		t.Fatalf("Join(%v) = %v, %v, not %v, %v", a, alone, aloneErr, n, err)
	}
	ab, err := edit.Join(a, b)
	if err != api.OK {
		return
	}
	x, e1 := edit.Apply(old, a)
	y, e2 := edit.Apply(old, b)
	if e1 == api.OK && e2 == api.OK {
		if got, err := edit.Apply(old, ab); !bytes.Equal(got, slices.Concat(x, y)) || err != api.OK {
			t.Fatalf("Apply(%v, Join(%v, %v)) = %v, %v, not %v and %v", old, a, b, got, err, x, y)
		}
	}
	left, e1 := edit.Join(ab, c)
	all, e2 := edit.Join(a, b, c)
	if e1 == api.OK && e2 == api.OK && !edit.Alike(left, all) {
		t.Fatalf("Join(Join(%v, %v), %v) = %v, not %v", a, b, c, left, all)
	}
}

// P16.15: of all pairs of small edits, with a drawn third, and of drawn ones.
func TestInARow(t *testing.T) {
	r := rolls(26)
	for _, a := range brief() {
		for _, b := range brief() {
			holdRow(t, []byte("abcdef"), a, b, r.fit(6, 2))
		}
	}
	for range 3000 {
		old := r.data(r.below(40))
		a, b, c := r.fit(len(old), r.below(9)), r.fit(len(old), r.below(9)), r.fit(len(old), r.below(9))
		holdRow(t, old, a, b, c)
		holdRow(t, old, r.any(len(old)), r.any(len(old)), r.any(len(old)))
		if _, err := edit.Join(a, b, c); err != api.OK {
			t.Fatalf("Join(%v, %v, %v): %v", a, b, c, err)
		}
	}
}

// holdReach: P16.16.
func holdReach(t *testing.T, e api.Edit) {
	t.Helper()
	s, err := edit.Tell(e)
	n, sizeErr := edit.Size(e)
	if err != sizeErr || s.Added+s.Copied != n {
		t.Fatalf("Tell(%v) = %+v, %v, Size = %d, %v", e, s, err, n, sizeErr)
	}
	if err != api.OK || edit.Check(e, api.MaxImage, n) != api.OK {
		return
	}
	for _, more := range []int{s.Reach, s.Reach + 1, s.Reach + 100, api.MaxImage} {
		if err := edit.Check(e, min(more, api.MaxImage), n); err != api.OK {
			t.Fatalf("Reach of %v is %d, but over %d bytes: %v", e, s.Reach, more, err)
		}
	}
	if s.Reach > 0 {
		if err := edit.Check(e, s.Reach-1, n); err != api.ErrEditRead {
			t.Fatalf("Reach of %v is %d, but over one less: %v", e, s.Reach, err)
		}
	}
}

// P16.16: of all short edits, bent ones among them, and drawn ones.
func TestReach(t *testing.T) {
	for _, e := range short() {
		for _, b := range bent(e) {
			holdReach(t, b)
		}
	}
	r := rolls(27)
	for range 4000 {
		holdReach(t, r.fit(r.below(40), r.below(12)))
		holdReach(t, r.any(r.below(40)))
	}
	holdReach(t, plain(0, 0, api.MaxImage-1, 1, 0, 0))
	holdReach(t, plain(0, 0, api.MaxImage, 1, 0, 0))
	holdReach(t, plain(0, 0, -1, 1, 0, 0))
}
