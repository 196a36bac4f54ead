package maker_test

import (
	"bytes"
	"slices"
	"testing"

	"sapper/api"
	"sapper/frame"
	"sapper/maker"
)

// P20.5: drawn images and options, and those at the options' bounds.
func TestRoundTrip(t *testing.T) {
	r := rolls(9)
	for range 800 {
		old := r.image()
		next := r.next(old)
		expectMeaning(t, "drawn", mustGenerate(t, old, next, r.options()), old, next, api.OK)
	}
	old := r.data(200)
	next := r.like(old)
	for _, c := range choices() {
		if c.may {
			expectMeaning(t, c.name, mustGenerate(t, old, next, c.o), old, next, api.OK)
		}
	}
}

// P20.5: longer images, by which parts lie far from each other and streams in several blocks.
func TestRoundTripOfLong(t *testing.T) {
	r := rolls(10)
	for range 6 {
		old := r.data(20000 + r.below(60000))
		var next []byte
		for range 20 {
			from := r.below(len(old))
			next = append(next, old[from:min(len(old), from+r.below(9000))]...)
			next = append(next, r.data(r.below(300))...)
		}
		for range 40 {
			next[r.below(len(next))]++
		}
		o := r.options()
		o.Press.Look.Chain = min(o.Press.Look.Chain, 10)
		o.Press.Block = max(o.Press.Block, 20)
		p := mustGenerate(t, old, next, o)
		if b, err := maker.Meaning(p, old); !bytes.Equal(b, next) || err != api.OK {
			t.Fatalf("%v: %d bytes of %d, %v", o, len(b), len(next), err)
		}
		u := mustUndo(t, p, old, usual())
		if b, err := maker.Meaning(u, next); !bytes.Equal(b, old) || err != api.OK {
			t.Fatalf("%v: and back: %d bytes of %d, %v", o, len(b), len(old), err)
		}
		m := mustMerge(t, p, u, o)
		if b, err := maker.Meaning(m, old); !bytes.Equal(b, old) || err != api.OK {
			t.Fatalf("%v: both: %d bytes of %d, %v", o, len(b), len(old), err)
		}
	}
}

// P20.6: old images of another size, and of the same size with another sum, each byte and bit of it turned among them.
func TestOtherImages(t *testing.T) {
	r := rolls(11)
	for range 60 {
		old := r.image()
		p, _ := r.either(t, old)
		for range 20 {
			other := r.bent(old)
			if r.below(3) == 0 {
				other = r.image()
			}
			if len(other) == len(old) && sumOf(other) == sumOf(old) {
				continue
			}
			expectMeaning(t, "another image", p, other, nil, api.ErrMakeOld)
		}
		for at := range old {
			other := slices.Clone(old)
			other[at] ^= 1 << r.below(8)
			expectMeaning(t, "a bit turned", p, other, nil, api.ErrMakeOld)
		}
	}
	// Images of all sizes that have the same sum as the old one.
	old := r.data(50)
	p := mustGenerate(t, old, r.like(old), usual())
	for n := range 120 {
		other := append(r.data(n), 1, 2, 3, 4)
		other = sameSum(other, old)
		if len(other) != len(old) {
			expectMeaning(t, "another size, the same sum", p, other, nil, api.ErrMakeOld)
		}
	}
}

// P20.7: patches of Generate's and others, over the image that the first one is for, over its twin, and over others; the second one with a right NewSum or another one.
func TestTwoMadeOne(t *testing.T) {
	r := rolls(12)
	count := map[api.Errno]int{}
	for range 600 {
		a := r.image()
		p, b := r.either(t, a)
		q, c := r.either(t, b)
		if r.below(4) == 0 {
			was, _, _ := frame.Decode(q)
			h := was
			h.NewSum ^= 1 << r.below(32)
			q, c = rehead(q, was, h), nil
		}
		m := mustMerge(t, p, q, r.options())
		images := [][]byte{a, r.bent(a), r.image()}
		if len(a) > 4 {
			images = append(images, twin(a))
		}
		for i, old := range images {
			mid, err := maker.Meaning(p, old)
			if err != api.OK {
				continue
			}
			want, wantErr := maker.Meaning(q, mid)
			expectMeaning(t, "both", m, old, want, wantErr)
			count[wantErr]++
			if i == 0 && (!bytes.Equal(want, c) || wantErr == api.OK && !bytes.Equal(mid, b)) {
				t.Fatalf("%q, not %q", want, c)
			}
		}
	}
	if count[api.OK] < 300 || count[api.ErrMakeSum] < 50 {
		t.Errorf("%v", count)
	}
}

// P20.7: where the first patch leads from a twin of its image to another image of that size and sum, the second one tells ErrMakeSum of it, and so do both made one.
func TestTwoMadeOneOfTwin(t *testing.T) {
	r := rolls(13)
	hits := 0
	for range 100 {
		a := r.data(10 + r.below(100))
		p := mustGenerate(t, a, a, r.options())
		q := mustGenerate(t, a, a[:len(a)/2], r.options())
		m := mustMerge(t, p, q, r.options())
		other := twin(a)
		expectMeaning(t, "the first", p, other, other, api.OK)
		want, wantErr := maker.Meaning(q, other)
		expectMeaning(t, "both", m, other, want, wantErr)
		if wantErr == api.ErrMakeSum {
			hits++
		}
	}
	if hits < 90 {
		t.Error(hits)
	}
}

// P20.7: three in a row, whichever two are made one first.
func TestThreeMadeOne(t *testing.T) {
	r := rolls(14)
	for range 200 {
		a := r.image()
		p, b := r.either(t, a)
		q, c := r.either(t, b)
		s, d := r.either(t, c)
		o := r.options()
		left := mustMerge(t, mustMerge(t, p, q, r.options()), s, o)
		right := mustMerge(t, p, mustMerge(t, q, s, r.options()), o)
		expectMeaning(t, "three", left, a, d, api.OK)
		if !bytes.Equal(left, right) {
			t.Fatalf("% x, % x", left, right)
		}
	}
}

// P20.8: of an image to itself, of 9 bytes or more: one step that adds all; from none: one that copies all.
func TestToItselfAndFromNone(t *testing.T) {
	r := rolls(15)
	for _, n := range []int{9, 10, 11, 63, 64, 65, 100, 127, 128, 129, 300, 1000} {
		for _, d := range [][]byte{make([]byte, n), bytes.Repeat([]byte{255}, n), bytes.Repeat([]byte("ab"), n)[:n], r.data(n), r.data(n), r.data(n)} {
			for _, size := range []int{64, 65, 128, 65536} {
				o := usual()
				o.Window = size
				_, l, err := maker.Plan(d, d, o)
				var added, copied []api.Window
				for at := 0; at < n; at += size {
					k := min(size, n-at)
					added = append(added, api.Window{Pos: at, Edit: api.Edit{Steps: steps(k, 0, 0), Diff: make([]byte, k)}})
					copied = append(copied, api.Window{Edit: api.Edit{Steps: steps(0, k, 0), Extra: d[at : at+k]}})
				}
				if !sameWindows(l, added) || err != api.OK {
					t.Fatalf("%q to itself: %v, %v", d, l, err)
				}
				if _, l, err := maker.Plan(nil, d, o); !sameWindows(l, copied) || err != api.OK {
					t.Fatalf("none to %q: %v, %v", d, l, err)
				}
			}
		}
	}
	for n := range 9 {
		d := r.data(n)
		if _, l, err := maker.Plan(nil, d, usual()); err != api.OK || len(l) != min(n, 1) || n > 0 && (!slices.Equal(l[0].Edit.Steps, steps(0, n, 0)) || !bytes.Equal(l[0].Edit.Extra, d)) {
			t.Errorf("none to %q: %v, %v", d, l, err)
		}
	}
}

// P20.11: the way back, of patches of Generate's and others, and over a twin where the patch means something.
func TestAndBack(t *testing.T) {
	r := rolls(16)
	twins := 0
	for range 400 {
		old := r.image()
		p, next := r.either(t, old)
		if len(old) > 4 && r.below(4) == 0 {
			if b, err := maker.Meaning(p, twin(old)); err == api.OK {
				old, next = twin(old), b
				twins++
			}
		}
		u := mustUndo(t, p, old, r.options())
		expectMeaning(t, "and back", u, next, old, api.OK)
		expectMeaning(t, "there and back", mustMerge(t, p, u, r.options()), old, old, api.OK)
		again := mustUndo(t, u, next, r.options())
		expectMeaning(t, "and there again", again, old, next, api.OK)
	}
	if twins < 3 {
		t.Error(twins)
	}
}

// P20.12: none of the patches is shorter than Best's, which is that of its place; none of those ahead is as short.
func TestNoneIsShorter(t *testing.T) {
	r := rolls(17)
	for range 300 {
		old := r.image()
		next := r.next(old)
		l := []api.Options{r.options(), r.options(), r.options(), r.options()}[:1+r.below(4)]
		p, place, err := maker.Best(old, next, l...)
		if err != api.OK || place < 0 || place >= len(l) {
			t.Fatal(place, err)
		}
		for i, o := range l {
			other := mustGenerate(t, old, next, o)
			if len(other) < len(p) || i < place && len(other) == len(p) || i == place && !bytes.Equal(other, p) {
				t.Fatalf("%v: place %d of %d bytes, but %d has %d", l, place, len(p), i, len(other))
			}
		}
		expectMeaning(t, "best", p, old, next, api.OK)
	}
}
