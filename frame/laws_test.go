package frame_test

import (
	"bytes"
	"slices"
	"testing"

	"sapper/api"
	"sapper/frame"
)

// patches: a few short ones: of nothing, of one window without Diff, of one without Extra, of several.
func patches(t *testing.T) [][]byte {
	t.Helper()
	empty := api.Head{Window: 64, Look: 100}
	copied := api.Head{New: 3, NewSum: 77, Window: 64, Look: 100}
	added := api.Head{Old: 300, New: 5, OldSum: 1 << 30, Window: 64, Look: 100}
	three := api.Head{Old: 10, New: 134, OldSum: 5, NewSum: 6, Window: 64, Look: 100}
	return [][]byte{
		mustEncode(t, empty, options(100)),
		mustEncode(t, copied, options(100), api.Window{Edit: api.Edit{Steps: steps(0, 3, 0), Extra: []byte("abc")}}),
		mustEncode(t, added, options(100), window(295, 5, 0, 0)),
		mustEncode(t, three, options(100), window(0, 10, 54, 0), window(3, 0, 20, 2, 2, 42, 0), window(4, 3, 2, 0, 1, 0, 0)),
	}
}

// P18.6: what is read of a header is what was written, whatever stands behind; another header's bytes do not begin with it.
func TestHeadAndBack(t *testing.T) {
	r := rolls(10)
	seen := map[string]api.Head{}
	for range 3000 {
		h := r.head()
		b, err := frame.Head(h)
		if err != api.OK {
			t.Fatal(h, err)
		}
		if other, is := seen[string(b)]; is && other != h {
			t.Fatalf("%v and %v have the same bytes", h, other)
		}
		seen[string(b)] = h
		if back, n, err := frame.ReadHead(append(b, r.data(r.below(30))...)); back != h || n != len(b) || err != api.OK {
			t.Fatalf("%v: %v, %d, %v", h, back, n, err)
		}
	}
	for h, may := range heads() {
		if !may {
			continue
		}
		b, _ := frame.Head(h)
		if back, n, err := frame.ReadHead(slices.Concat(b, b)); back != h || n != len(b) || err != api.OK {
			t.Fatalf("%v: %v, %d, %v", h, back, n, err)
		}
	}
}

// P18.7: Decode of Encode, of drawn headers, options and windows; and what Decode has told is encoded to the same bytes.
func TestThereAndBack(t *testing.T) {
	r := rolls(11)
	for range 400 {
		h := r.head()
		o := r.options(h.Look)
		l := r.windows(h)
		b := mustEncode(t, h, o, l...)
		back, windows, err := frame.Decode(b)
		if back != h || !sameWindows(windows, l) || err != api.OK {
			t.Fatalf("Decode(Encode(%v, %v, %v)) = %v, %v, %v", h, o, l, back, windows, err)
		}
		if again := mustEncode(t, back, o, windows...); !bytes.Equal(again, b) {
			t.Fatalf("Encode(Decode(% x)) = % x", b, again)
		}
	}
}

// P18.7: the streams that grow the most when they are pressed, a token a block, still are of sizes that may be.
func TestWorstStreams(t *testing.T) {
	r := rolls(12)
	for range 100 {
		n := 1 + r.below(300)
		data := make([]byte, n)
		for i := range data {
			data[i] = byte(144 + r.below(112)) // these take nine bits each
		}
		look := 1 + r.below(9)
		o := api.Press{Look: api.Look{Window: look}, Block: 1 + r.below(2)}
		h := api.Head{Old: 300, New: n, Window: 64 + r.below(300), Look: look}
		var l []api.Window
		for _, size := range sizesAll(h) {
			e := api.Edit{Steps: steps(0, size, 0), Extra: data[:size]}
			if r.below(2) == 0 {
				e = api.Edit{Steps: steps(size, 0, 0), Diff: data[:size]}
			}
			l, data = append(l, api.Window{Edit: e}), data[size:]
		}
		if back, windows, err := frame.Decode(mustEncode(t, h, o, l...)); back != h || !sameWindows(windows, l) || err != api.OK {
			t.Fatalf("%v, %v, %v: %v", h, o, l, err)
		}
	}
}

// P18.9: no beginning of a patch is a patch, and none with more behind it is.
func TestBeginnings(t *testing.T) {
	r := rolls(13)
	all := patches(t)
	for range 10 {
		h := r.head()
		all = append(all, mustEncode(t, h, r.options(h.Look), r.windows(h)...))
	}
	for _, b := range all {
		if _, _, err := frame.Decode(b); err != api.OK {
			t.Fatalf("Decode(% x): %v", b, err)
		}
		for n := range b {
			if h, l, err := frame.Decode(b[:n]); err != api.ErrFrameForm || h != (api.Head{}) || len(l) != 0 {
				t.Fatalf("the first %d bytes of % x: %v, %v, %v", n, b, h, l, err)
			}
		}
		for v := range 256 {
			if h, l, err := frame.Decode(append(slices.Clone(b), byte(v))); err != api.ErrFrameForm || h != (api.Head{}) || len(l) != 0 {
				t.Fatalf("% x and %x: %v, %v, %v", b, v, h, l, err)
			}
		}
		for range 100 {
			more := append(slices.Clone(b), r.data(1+r.below(40))...)
			if _, _, err := frame.Decode(more); err != api.ErrFrameForm {
				t.Fatalf("% x, of which the first %d bytes are a patch: %v", more, len(b), err)
			}
			if _, _, err := frame.Decode(sealed(more)); err != api.ErrFrameForm {
				t.Fatalf("% x, of which the first %d bytes are a patch, and a sum: %v", more, len(b), err)
			}
		}
	}
}
