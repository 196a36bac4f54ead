package maker_test

import (
	"bytes"
	"testing"

	"sapper/api"
	"sapper/maker"
)

// expectBest: an error, and nothing beside it.
func expectBest(t *testing.T, name string, old, next []byte, want api.Errno, l ...api.Options) {
	t.Helper()
	if p, place, err := maker.Best(old, next, l...); p != nil || place != 0 || err != want {
		t.Errorf("%s: %d bytes, %d, %v, not %v", name, len(p), place, err, want)
	}
}

// P20.10: the chapter's example 4; no options.
func TestBestOfFew(t *testing.T) {
	o, a, b := usual(), []byte("a"), []byte("b")
	want := mustGenerate(t, a, b, o)
	if p, place, err := maker.Best(a, b, o, o); !bytes.Equal(p, want) || place != 0 || err != api.OK {
		t.Errorf("% x, %d, %v", p, place, err)
	}
	expectBest(t, "no options", a, b, api.ErrArg)
	expectBest(t, "nil", a, b, api.ErrArg, []api.Options(nil)...)
	expectBest(t, "an empty list", a, b, api.ErrArg, []api.Options{}...)
	expectBest(t, "no options, no images", nil, nil, api.ErrArg)
}

// P20.10, R2: an image that is too large comes ahead of no options, and these ahead of none; one that may not be, wherever it stands.
func TestErrorsOfBest(t *testing.T) {
	many := make([]byte, api.MaxImage+1)
	good, bad := usual(), usual()
	bad.Press.Look.Window = 0
	expectBest(t, "old, no options", many, nil, api.ErrMakeMany)
	expectBest(t, "next, no options", nil, many, api.ErrMakeMany)
	expectBest(t, "both, no options", many, many, api.ErrMakeMany)
	expectBest(t, "old, a wrong one", many, nil, api.ErrMakeMany, good, bad)
	expectBest(t, "next, a wrong one", nil, many, api.ErrMakeMany, bad)
	expectBest(t, "just as many, no options", many[1:], many[1:], api.ErrArg)
	expectBest(t, "just as many, a wrong one", many[1:], many[1:], api.ErrMakeOption, good, bad)
	expectBest(t, "a wrong one alone", nil, nil, api.ErrMakeOption, bad)
	expectBest(t, "a wrong one first", nil, nil, api.ErrMakeOption, bad, good, good)
	expectBest(t, "a wrong one in the middle", nil, nil, api.ErrMakeOption, good, bad, good)
	expectBest(t, "a wrong one last", nil, nil, api.ErrMakeOption, good, good, bad)
	old, next := []byte("abcdefghij"), []byte("abcdefghi")
	for _, c := range choices() {
		holdBest(t, old, next, c.o)
		holdBest(t, old, next, usual(), c.o)
		holdBest(t, old, next, c.o, usual())
		if !c.may {
			expectBest(t, c.name, old, next, api.ErrMakeOption, usual(), c.o, usual())
		}
	}
}

// P20.10: the shortest is picked, wherever it stands; of several as short the first.
func TestBestPlaces(t *testing.T) {
	old := []byte("0123456789")
	next := bytes.Repeat([]byte("the same text "), 40)
	short, long, longer := usual(), usual(), usual()
	short.Window = 600
	long.Window, long.Press.Look.Chain = 600, 0
	longer.Press.Look.Chain = 0
	again := short // as short, and not the same
	again.Window = 601
	other := short
	other.Press.Block = 101
	a, b, c := len(mustGenerate(t, old, next, short)), len(mustGenerate(t, old, next, long)), len(mustGenerate(t, old, next, longer))
	if a >= b || b >= c || len(mustGenerate(t, old, next, again)) != a || len(mustGenerate(t, old, next, other)) != a {
		t.Fatal(a, b, c)
	}
	for _, x := range []struct {
		want int
		l    []api.Options
	}{
		{0, []api.Options{short}},
		{0, []api.Options{longer}},
		{0, []api.Options{short, long, longer}},
		{1, []api.Options{long, short, longer}},
		{2, []api.Options{longer, long, short}},
		{0, []api.Options{short, again, other}},
		{1, []api.Options{long, again, short, other, short}},
		{3, []api.Options{long, long, longer, other, short, again}},
		{1, []api.Options{longer, long, longer, long}},
		{0, []api.Options{longer, longer}},
	} {
		p, place, err := maker.Best(old, next, x.l...)
		if want := mustGenerate(t, old, next, x.l[x.want]); !bytes.Equal(p, want) || place != x.want || err != api.OK {
			t.Errorf("%v: %d bytes, %d, %v, not %d bytes, %d", x.l, len(p), place, err, len(want), x.want)
		}
		holdBest(t, old, next, x.l...)
	}
}

// P20.10: no bytes; and images of just a window, one byte less and one more.
func TestBestAtWindows(t *testing.T) {
	r := rolls(7)
	sizes := []int{0, 1, 63, 64, 65, 128, 129}
	for _, n := range sizes {
		for _, m := range sizes {
			holdBest(t, r.data(n), r.data(m), usual(), r.options(), r.options())
		}
	}
}

// P20.10: drawn images and options.
func TestBestOfDrawn(t *testing.T) {
	r := rolls(8)
	count := map[int]int{}
	for range 800 {
		old := r.image()
		next := r.next(old)
		var l []api.Options
		for range r.below(5) {
			l = append(l, r.options())
			if r.below(40) == 0 {
				l[len(l)-1].Press.Block = r.of(-1, 0, 65537)
			}
		}
		count[holdBest(t, old, next, l...)]++
	}
	for place := range 4 {
		if count[place] < 10 {
			t.Errorf("%v", count)
		}
	}
}
