package frame_test

import (
	"bytes"
	"math"
	"slices"
	"testing"

	"sapper/api"
	"sapper/frame"
	"sapper/num"
)

// holdSizes: P18.3, P18.6, by the chapter's words; both calls.
func holdSizes(t *testing.T, h api.Head, i int, s api.Sizes) api.Errno {
	t.Helper()
	want, wantErr := sizesOf(h, i, s)
	if err := frame.Fits(h, i, s); err != wantErr {
		t.Fatalf("Fits(%v, %d, %v) = %v, not %v", h, i, s, err, wantErr)
	}
	b, err := frame.Sizes(h, i, s)
	if !bytes.Equal(b, want) || err != wantErr {
		t.Fatalf("Sizes(%v, %d, %v) = % x, %v, not % x, %v", h, i, s, b, err, want, wantErr)
	}
	if err != api.OK {
		return err
	}
	var l []int
	for rest := append(slices.Clone(b), 0x80); len(rest) > 1; {
		v, n, err := num.Decode(rest)
		if err != api.OK {
			t.Fatalf("Sizes(%v, %d, %v) = % x: %v", h, i, s, b, err)
		}
		l, rest = append(l, int(v)), rest[n:]
	}
	if len(l) != 7 || sizes(l...) != s {
		t.Fatalf("Sizes(%v, %d, %v) = % x, which say %v", h, i, s, b, l)
	}
	return api.OK
}

// P18.3: the chapter's third example.
func TestExamplesOfFits(t *testing.T) {
	h := api.Head{Old: 5, New: 3, Window: 64, Look: 100}
	for _, c := range []struct {
		i    int
		s    api.Sizes
		want api.Errno
	}{
		{0, sizes(0, 3, 0, 3, 5, 0, 76), api.OK},
		{0, sizes(6, 3, 0, 3, 5, 0, 76), api.ErrFrameWindow},
		{0, sizes(0, 0, 0, 3, 5, 0, 76), api.ErrFrameWindow},
		{0, sizes(0, 0, 0, 3, 0, 0, 76), api.ErrFrameWindow},
		{0, sizes(0, 3, 1, 3, 5, 0, 76), api.ErrFrameWindow},
		{0, sizes(0, 3, 1, 3, 5, 5, 76), api.ErrFrameWindow},
		{0, sizes(0, 3, 0, 3, 0, 0, 5), api.ErrFrameWindow},
		{0, sizes(0, 3, 0, 3, 5, 1, 5), api.ErrFrameWindow},
		{0, sizes(0, 3, 0, 3, 5, 0, 77), api.ErrFrameWindow},
		{1, sizes(0, 3, 0, 3, 5, 0, 76), api.ErrArg},
		{-1, sizes(0, 3, 0, 3, 5, 0, 76), api.ErrArg},
	} {
		if err := holdSizes(t, h, c.i, c.s); err != c.want {
			t.Errorf("Fits(%v, %d, %v) = %v", h, c.i, c.s, err)
		}
	}
	b, err := frame.Sizes(api.Head{Old: 300, New: 1000, Window: 500, Look: 1}, 1, sizes(300, 3000, 128, 372, 12064, 1, 127))
	if string(b) != "\xac\x02\xb8\x17\x80\x01\xf4\x02\xa0\x5e\x01\x7f" || err != api.OK {
		t.Errorf("% x, %v", b, err)
	}
}

// P18.3: each of the numbers at its edges, by itself.
func TestEdgesOfFits(t *testing.T) {
	h := api.Head{Old: 50, New: 200, Window: 64, Look: 9} // windows of 64, 64, 64, 8
	most := 6 * 64
	for _, c := range []struct {
		name string
		i    int
		s    api.Sizes
		may  bool
	}{
		{"both streams", 0, sizes(7, 3, 30, 34, 5, 6, 7), true},
		{"Pos -1", 0, sizes(-1, 3, 30, 34, 5, 6, 7), false},
		{"Pos 0", 0, sizes(0, 3, 30, 34, 5, 6, 7), true},
		{"Pos Old", 0, sizes(50, 3, 30, 34, 5, 6, 7), true},
		{"Pos one more", 0, sizes(51, 3, 30, 34, 5, 6, 7), false},
		{"Raw 0 at -1", 0, sizes(0, -1, 30, 34, 5, 6, 7), false},
		{"Raw 0 at 0", 0, sizes(0, 0, 30, 34, 5, 6, 7), false},
		{"Raw 0 at 0, and Packed", 0, sizes(0, 0, 30, 34, 0, 6, 7), false},
		{"Raw 0 at 1", 0, sizes(0, 1, 30, 34, 5, 6, 7), true},
		{"Raw 0 at Most", 0, sizes(0, most, 30, 34, 5, 6, 7), true},
		{"Raw 0 one more", 0, sizes(0, most+1, 30, 34, 5, 6, 7), false},
		{"Raw 0 at Most, of the last window", 3, sizes(0, most, 3, 5, 5, 6, 7), true},
		{"Raw 0 one more, of the last window", 3, sizes(0, most+1, 3, 5, 5, 6, 7), false},
		{"Raw 1 at 0", 0, sizes(0, 3, 0, 64, 5, 0, 7), true},
		{"Raw 1 at -1", 0, sizes(0, 3, -1, 65, 5, 0, 7), false},
		{"Raw 1 at -1, Packed 1", 0, sizes(0, 3, -1, 65, 5, 1, 7), false},
		{"Raw 2 at 0", 0, sizes(0, 3, 64, 0, 5, 6, 0), true},
		{"Raw 2 at -1", 0, sizes(0, 3, 65, -1, 5, 6, 0), false},
		{"Raw 2 at -1, Packed 1", 0, sizes(0, 3, 65, -1, 5, 6, 1), false},
		{"together one less, by Raw 1", 0, sizes(0, 3, 29, 34, 5, 6, 7), false},
		{"together one less, by Raw 2", 0, sizes(0, 3, 30, 33, 5, 6, 7), false},
		{"together one more, by Raw 1", 0, sizes(0, 3, 31, 34, 5, 6, 7), false},
		{"together one more, by Raw 2", 0, sizes(0, 3, 30, 35, 5, 6, 7), false},
		{"one from the other", 0, sizes(0, 3, 31, 33, 5, 6, 7), true},
		{"the last window", 3, sizes(0, 3, 8, 0, 5, 6, 0), true},
		{"the last window, as another", 3, sizes(0, 3, 64, 0, 5, 6, 0), false},
		{"another, as the last window", 2, sizes(0, 3, 8, 0, 5, 6, 0), false},
		{"Packed 0 at 0", 0, sizes(0, 3, 30, 34, 0, 6, 7), false},
		{"Packed 0 at -1", 0, sizes(0, 3, 30, 34, -1, 6, 7), false},
		{"Packed 0 at 1", 0, sizes(0, 3, 30, 34, 1, 6, 7), true},
		{"Packed 0 at its most", 0, sizes(0, 3, 30, 34, 76, 6, 7), true},
		{"Packed 0 one more", 0, sizes(0, 3, 30, 34, 77, 6, 7), false},
		{"Packed 1 at 0", 0, sizes(0, 3, 30, 34, 5, 0, 7), false},
		{"Packed 1 at 1", 0, sizes(0, 3, 30, 34, 5, 1, 7), true},
		{"Packed 1 at its most", 0, sizes(0, 3, 30, 34, 5, 184, 7), true},
		{"Packed 1 one more", 0, sizes(0, 3, 30, 34, 5, 185, 7), false},
		{"Packed 2 at 0", 0, sizes(0, 3, 30, 34, 5, 6, 0), false},
		{"Packed 2 at 1", 0, sizes(0, 3, 30, 34, 5, 6, 1), true},
		{"Packed 2 at its most", 0, sizes(0, 3, 30, 34, 5, 6, 200), true},
		{"Packed 2 one more", 0, sizes(0, 3, 30, 34, 5, 6, 201), false},
		{"Packed 1 of no bytes at 1", 0, sizes(0, 3, 0, 64, 5, 1, 7), false},
		{"Packed 1 of no bytes at 64", 0, sizes(0, 3, 0, 64, 5, 64, 7), false},
		{"Packed 1 of no bytes at -1", 0, sizes(0, 3, 0, 64, 5, -1, 7), false},
		{"Packed 2 of no bytes at 1", 0, sizes(0, 3, 64, 0, 5, 6, 1), false},
		{"Packed 2 of no bytes at -1", 0, sizes(0, 3, 64, 0, 5, 6, -1), false},
	} {
		want := api.ErrFrameWindow
		if c.may {
			want = api.OK
		}
		if err := holdSizes(t, h, c.i, c.s); err != want {
			t.Errorf("%s: %v", c.name, err)
		}
	}
}

// P18.3: the header's error comes ahead of the place's, and that one ahead of the sizes'.
func TestOrderOfFits(t *testing.T) {
	right, wrong := sizes(0, 3, 0, 3, 5, 0, 5), sizes(-1, 0, 9, 9, 9, 9, 9)
	for h, may := range heads() {
		n := len(sizesAll(h))
		for _, i := range []int{math.MinInt, -1, 0, n - 1, n, n + 1, math.MaxInt} {
			for _, s := range []api.Sizes{right, wrong} {
				err := holdSizes(t, h, i, s)
				want := api.ErrFrameWindow
				switch {
				case !may:
					want = api.ErrFrameHead
				case i < 0 || i >= n:
					want = api.ErrArg
				}
				if s == wrong && err != want || want != api.ErrFrameWindow && err != want {
					t.Errorf("Fits(%v, %d, %v) = %v", h, i, s, err)
				}
			}
		}
	}
	if err := holdSizes(t, api.Head{Old: 5, Window: 64, Look: 1}, 0, right); err != api.ErrArg {
		t.Error("no windows:", err)
	}
}

// P18.3: all sizes around the edges, of a window of 3 bytes and of one of 64.
func TestFitsOfAll(t *testing.T) {
	packed := func(raw int) []int { return []int{-1, 0, 1, 4*raw + 63, 4*raw + 64, 4*raw + 65} }
	for _, n := range []int{3, 64} {
		h := api.Head{Old: 2, New: n, Window: 64, Look: 100}
		for _, pos := range []int{-1, 0, 2, 3} {
			for _, control := range []int{-1, 0, 1, 384, 385} {
				for _, diff := range []int{-1, 0, 1, n - 1, n, n + 1} {
					for _, extra := range []int{-1, 0, n - diff - 1, n - diff, n - diff + 1} {
						for _, a := range packed(control) {
							for _, b := range packed(diff) {
								for _, c := range packed(extra) {
									holdSizes(t, h, 0, sizes(pos, control, diff, extra, a, b, c))
								}
							}
						}
					}
				}
			}
		}
	}
}

// P18.3, P18.6: of drawn headers and sizes, those that may be and those that are bent a little.
func TestFitsOfDrawn(t *testing.T) {
	r := rolls(3)
	fit := 0
	for range 30000 {
		h := r.head()
		l := sizesAll(h)
		if len(l) == 0 {
			continue
		}
		i := r.below(len(l))
		diff := r.below(l[i] + 1)
		s := api.Sizes{Pos: r.below(h.Old + 1), Raw: [3]int{1 + r.below(6*h.Window), diff, l[i] - diff}}
		for k, raw := range s.Raw {
			if raw > 0 {
				s.Packed[k] = 1 + r.below(4*raw+64)
			}
		}
		if err := holdSizes(t, h, i, s); err != api.OK {
			t.Fatalf("Fits(%v, %d, %v) = %v", h, i, s, err)
		}
		fit++
		at := []*int{&s.Pos, &s.Raw[0], &s.Raw[1], &s.Raw[2], &s.Packed[0], &s.Packed[1], &s.Packed[2]}
		was := s
		for _, p := range at {
			*p += r.below(5) - 2
			holdSizes(t, h, i, s)
			holdSizes(t, h, i-1+r.below(3), s)
			s = was
		}
	}
	if fit < 10000 {
		t.Errorf("just %d", fit)
	}
}

// P18.3, R6: numbers at their ends, whose sums and products go beyond what an int holds.
func TestFitsAtEnds(t *testing.T) {
	r := rolls(4)
	h := api.Head{Old: 5, New: 130, Window: 64, Look: 100}
	base := sizes(3, 4, 30, 34, 5, 6, 7)
	if err := holdSizes(t, h, 1, base); err != api.OK {
		t.Fatal(err)
	}
	all := ends()
	for _, v := range all {
		for _, u := range all {
			for a := range 7 {
				for b := range 7 {
					s := base
					at := []*int{&s.Pos, &s.Raw[0], &s.Raw[1], &s.Raw[2], &s.Packed[0], &s.Packed[1], &s.Packed[2]}
					*at[a], *at[b] = v, u
					holdSizes(t, h, 1, s)
				}
			}
			// Sums that would go round to the window's size.
			s := base
			s.Raw[1], s.Raw[2] = v, 64-v
			holdSizes(t, h, 1, s)
			s.Raw[1], s.Raw[2] = 64-v, v
			holdSizes(t, h, 1, s)
			s.Packed[1], s.Packed[2] = u, u
			holdSizes(t, h, 1, s)
			bad := h
			*[]*int{&bad.Old, &bad.New, &bad.Window, &bad.Look}[r.below(4)] = v
			holdSizes(t, bad, u, base)
			holdSizes(t, h, v, base)
		}
	}
}
