package depot_test

import (
	"strings"
	"testing"

	"sapper/api"
	"sapper/depot"
)

// digits: an image of so many bytes: 1, 2, 3 ..
func digits(n int) []byte {
	out := make([]byte, n)
	for i := range out {
		out[i] = byte(i + 1)
	}
	return out
}

// P27.1: the chapter's example 1, and the edges: fewer than eight bytes, just as many, and where both ends meet.
func TestKeyOf(t *testing.T) {
	for _, c := range []struct {
		image []byte
		want  api.Key
	}{
		{[]byte("abc"), api.Key{Size: 3, Sum: 0x352441c2, Ends: [16]byte{'a', 'b', 'c', 0, 0, 0, 0, 0, 0, 0, 0, 0, 0, 'a', 'b', 'c'}}},
		{nil, api.Key{}},
		{[]byte{}, api.Key{}},
		{[]byte{0}, api.Key{Size: 1, Sum: 0xd202ef8d}},
		{digits(1), api.Key{Size: 1, Sum: 0xa505df1b, Ends: [16]byte{0: 1, 15: 1}}},
		{digits(7), api.Key{Size: 7, Sum: 0x70e46888, Ends: [16]byte{1, 2, 3, 4, 5, 6, 7, 0, 0, 1, 2, 3, 4, 5, 6, 7}}},
		{digits(8), api.Key{Size: 8, Sum: 0x3fca88c5, Ends: [16]byte{1, 2, 3, 4, 5, 6, 7, 8, 1, 2, 3, 4, 5, 6, 7, 8}}},
		{digits(9), api.Key{Size: 9, Sum: 0x40efab9e, Ends: [16]byte{1, 2, 3, 4, 5, 6, 7, 8, 2, 3, 4, 5, 6, 7, 8, 9}}},
		{digits(15), api.Key{Size: 15, Sum: 0xf5a6aa3a, Ends: [16]byte{1, 2, 3, 4, 5, 6, 7, 8, 8, 9, 10, 11, 12, 13, 14, 15}}},
		{digits(16), api.Key{Size: 16, Sum: 0x094c80f1, Ends: [16]byte{1, 2, 3, 4, 5, 6, 7, 8, 9, 10, 11, 12, 13, 14, 15, 16}}},
		{digits(17), api.Key{Size: 17, Sum: 0x72014175, Ends: [16]byte{1, 2, 3, 4, 5, 6, 7, 8, 10, 11, 12, 13, 14, 15, 16, 17}}},
		{[]byte(strings.Repeat("x", 100) + "the end!"), api.Key{Size: 108, Sum: 0x1ae0a351, Ends: [16]byte([]byte("xxxxxxxxthe end!"))}},
	} {
		given, same := lent(c.image)
		if got := depot.KeyOf(given); got != c.want {
			t.Errorf("%d bytes: %#v, not %#v", len(c.image), got, c.want)
		}
		if !same() {
			t.Error("what was handed in has changed")
		}
	}
}

// P27.1: each size up to some, and drawn ones, against the chapter's words; what stands between the ends is told by the sum alone.
func TestKeyOfDrawn(t *testing.T) {
	r := rolls(1)
	for n := range 300 {
		image := r.data(n)
		given, same := lent(image)
		got := depot.KeyOf(given)
		if !same() {
			t.Fatal("what was handed in has changed")
		}
		spoil(given, 1)
		if got != keyOf(image) || got != depot.KeyOf(image) {
			t.Errorf("%x: %v, not %v", image, got, keyOf(image))
		}
		if n > 20 {
			x := twin(image, 8+r.below(n-20), r.below(8))
			if string(x) == string(image) || depot.KeyOf(x) != got {
				t.Errorf("%x: %v, not %v", x, depot.KeyOf(x), got)
			}
			x[8+r.below(n-16)] ^= 1 << r.below(8)
			if y := depot.KeyOf(x); y.Sum == got.Sum || y.Ends != got.Ends || y.Size != got.Size {
				t.Errorf("%x: %v", x, y)
			}
		}
	}
}

// P27.1: an image that no depot keeps, since it is too large, has a name, too.
func TestKeyOfLarge(t *testing.T) {
	image := make([]byte, api.MaxImage+1)
	image[0], image[api.MaxImage] = 5, 6
	if got := depot.KeyOf(image); got != keyOf(image) || got.Size != 1<<24+1 || got.Ends != [16]byte{0: 5, 15: 6} {
		t.Errorf("%v, not %v", got, keyOf(image))
	}
}
