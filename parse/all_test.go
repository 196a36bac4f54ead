package parse_test

import (
	"slices"
	"testing"

	"sapper/api"
	"sapper/parse"
)

// expectNone: an error, and no events beside it.
func expectNone(t *testing.T, name string, b []byte, want api.Errno) {
	t.Helper()
	if l, err := parse.All(b); len(l) != 0 || err != want {
		t.Errorf("%s: %v, %v, not %v", name, l, err, want)
	}
}

// P19.5: all that is told of the base, written out, each stream whole; no EventNone.
func TestAllOfBase(t *testing.T) {
	var want []api.Event
	for _, m := range baseMoments() {
		want = append(want, m.told)
	}
	if l, err := parse.All(basePatch()); !sameAll(l, want) || err != api.OK {
		t.Errorf("%v, %v, not %v", l, err, want)
	}
	empty := sealed(headBytes(api.Head{Window: 64, Look: 100}))
	want = []api.Event{{Kind: api.EventHead, Head: api.Head{Window: 64, Look: 100}}, {Kind: api.EventEnd}}
	if l, err := parse.All(empty); !sameAll(l, want) || err != api.OK {
		t.Errorf("%v, %v, not %v", l, err, want)
	}
}

// P19.5: the beginnings of patches, none among them: the patch has not ended.
func TestAllOfBeginnings(t *testing.T) {
	expectNone(t, "nil", nil, api.ErrParseEnd)
	expectNone(t, "no bytes", []byte{}, api.ErrParseEnd)
	for _, b := range patches() {
		for n := range b {
			expectNone(t, "a beginning", b[:n], api.ErrParseEnd)
			expectNone(t, "a beginning, with room behind it", b[:n:n], api.ErrParseEnd)
		}
	}
}

// P19.5: patches with bytes behind them, of all kinds; a wrong byte ahead of the end is told in the place of these.
func TestAllWithMore(t *testing.T) {
	for _, b := range patches() {
		for v := range 256 {
			expectNone(t, "a byte more", append(slices.Clone(b), byte(v)), api.ErrParseForm)
		}
		expectNone(t, "twice", slices.Concat(b, b), api.ErrParseForm)
		expectNone(t, "the sum once more", slices.Concat(b, b[len(b)-4:]), api.ErrParseForm)
		expectNone(t, "its own sum behind it", sealed(b), api.ErrParseForm)
		bad := slices.Clone(b)
		bad[len(bad)-1] ^= 1
		expectNone(t, "another sum, and a byte more", append(bad, 0), api.ErrParseSum)
		bad = slices.Clone(b)
		bad[0] ^= 1
		expectNone(t, "another magic, and a byte more", append(bad, 0), api.ErrParseForm)
		bad = append(slices.Clone(b), b...)
		bad[len(b)-4] ^= 1
		expectNone(t, "another sum, and a patch behind it", bad, api.ErrParseSum)
	}
}

// P19.5: patches with each byte turned in all ways: none is one; its error is that of the model.
func TestAllTurned(t *testing.T) {
	for _, b := range patches() {
		for at := range b {
			for mask := 1; mask < 256; mask++ {
				bad := slices.Clone(b)
				bad[at] ^= byte(mask)
				_, want := allOf(bad)
				if want == api.OK {
					t.Fatalf("byte %d of % x turned by %x is a patch", at, b, mask)
				}
				expectNone(t, "a byte turned", bad, want)
			}
		}
	}
}

// P19.5: which error comes first.
func TestOrderOfAll(t *testing.T) {
	h, l := base()
	none := h
	none.Window = 63
	bad := l
	bad[0].numbers[0] = []byte{6}
	long := l
	long[0].numbers[6] = []byte{130, 0}
	cut := func(b []byte) []byte { return b[:len(b)-5] }
	turned := func(b []byte, at int) []byte {
		b = slices.Clone(b)
		b[at] ^= 1
		return b
	}
	for _, c := range []struct {
		name string
		b    []byte
		want api.Errno
	}{
		{"a header that may not be, and a wrong frame", patchOf(headBytes(none), bad[:]...), api.ErrParseForm},
		{"a header that may not be, another sum of it", patchOf(turned(headBytes(none), 20), l[:]...), api.ErrParseSum},
		{"another sum of the header, and a wrong frame", patchOf(turned(headBytes(h), 17), bad[:]...), api.ErrParseSum},
		{"another sum of the header, and cut", cut(patchOf(turned(headBytes(h), 17), l[:]...)), api.ErrParseSum},
		{"a wrong frame, and cut", cut(patchOf(headBytes(h), bad[:]...)), api.ErrParseForm},
		{"a longer form, in a frame that may not be", patchOf(headBytes(h), long[:]...), api.ErrParseForm},
		{"a wrong frame, and another sum", turned(patchOf(headBytes(h), bad[:]...), 45), api.ErrParseForm},
		{"cut within the sum", basePatch()[:45], api.ErrParseEnd},
		{"cut within the sum, which is another one", turned(basePatch(), 42)[:45], api.ErrParseEnd},
		{"the header alone", headBytes(h), api.ErrParseEnd},
		{"the header alone, another sum", turned(headBytes(h), 19), api.ErrParseSum},
	} {
		expectNone(t, c.name, c.b, c.want)
	}
}
