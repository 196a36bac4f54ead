package frame_test

import (
	"bytes"
	"math"
	"slices"
	"testing"

	"sapper/api"
	"sapper/bits"
	"sapper/block"
	"sapper/frame"
	"sapper/num"
	"sapper/swell"
)

// holdDecode: P18.5, by the chapter's words; P18.6, if it is a patch.
func holdDecode(t *testing.T, b []byte) api.Errno {
	t.Helper()
	h, l, err := frame.Decode(b)
	want, wantWindows, wantErr := decodeOf(b)
	if h != want || !sameWindows(l, wantWindows) || err != wantErr {
		t.Fatalf("Decode(% x) = %v, %v, %v, not %v, %v, %v", b, h, l, err, want, wantWindows, wantErr)
	}
	if err != api.OK {
		return err
	}
	rest := b
	expect := func(p []byte, err api.Errno) {
		t.Helper()
		if err != api.OK || !bytes.HasPrefix(rest, p) {
			t.Fatalf("of the patch % x there is written % x, %v", b, p, err)
		}
		rest = rest[len(p):]
	}
	expect(frame.Head(h))
	for i := range l {
		s, _, is := sizesAt(h, i, rest)
		if !is {
			t.Fatalf("of the patch % x the window %d has no sizes", b, i)
		}
		expect(frame.Sizes(h, i, s))
		rest = rest[s.Packed[0]+s.Packed[1]+s.Packed[2]:]
	}
	return api.OK
}

// part: a window's frame as it may be bent: its numbers' bytes, and its streams.
type part struct {
	numbers [7][]byte
	streams [3][]byte
}

// bytes: one behind the other.
func (p part) bytes() []byte {
	return slices.Concat(slices.Concat(p.numbers[:]...), slices.Concat(p.streams[:]...))
}

// partOf: of raw bytes, and of their streams.
func partOf(pos int, raw [3][]byte, streams [3][]byte) part {
	out := part{streams: streams}
	out.numbers[0] = shortest(pos)
	for k := range 3 {
		out.numbers[1+k] = shortest(len(raw[k]))
		out.numbers[4+k] = shortest(len(streams[k]))
	}
	return out
}

// pressedPart: of raw bytes alone.
func pressedPart(pos int, raw ...[]byte) part {
	var streams [3][]byte
	for k := range 3 {
		streams[k] = pressed(raw[k], options(100))
	}
	return partOf(pos, [3][]byte(raw), streams)
}

// base: a header of three windows, the last one of six bytes, and the parts of its patch.
func base() (api.Head, [3]part) {
	h := api.Head{Old: 10, New: 134, OldSum: 5, NewSum: 6, Window: 64, Look: 100}
	var out [3]part
	for i, w := range []api.Window{window(0, 10, 54, 0), window(3, 0, 20, 2, 2, 42, 0), window(4, 3, 2, 0, 1, 0, 0)} {
		l := streamsOf(w)
		out[i] = pressedPart(w.Pos, l[:]...)
	}
	return h, out
}

// expectBent: a patch of which one window is this part: what Decode answers, with a right sum and with another one.
func expectBent(t *testing.T, name string, p part, at int, want api.Errno) {
	t.Helper()
	h, l := base()
	l[at] = p
	b := sealed(headBytes(h), l[0].bytes(), l[1].bytes(), l[2].bytes())
	if err := holdDecode(t, b); err != want {
		t.Errorf("%s: %v", name, err)
	}
	b[len(b)-2] ^= 16
	if want == api.OK {
		want = api.ErrFrameSum
	}
	if err := holdDecode(t, b); err != want {
		t.Errorf("%s, and another sum: %v", name, err)
	}
}

// P18.5: the base is a patch, and its parts are those that Encode writes.
func TestBase(t *testing.T) {
	h, l := base()
	b := sealed(headBytes(h), l[0].bytes(), l[1].bytes(), l[2].bytes())
	if err := holdDecode(t, b); err != api.OK {
		t.Fatal(err)
	}
	want := mustEncode(t, h, options(100), window(0, 10, 54, 0), window(3, 0, 20, 2, 2, 42, 0), window(4, 3, 2, 0, 1, 0, 0))
	if !bytes.Equal(b, want) {
		t.Errorf("% x, not % x", b, want)
	}
	for i, p := range l {
		expectBent(t, "as it was", p, i, api.OK)
	}
}

// P18.5: numbers of a window that are in a longer form, too great, or none.
func TestNumbersOfWindows(t *testing.T) {
	_, l := base()
	for i := range l {
		for k := range 7 {
			p := l[i]
			was := p.numbers[k]
			v, _, _, _ := number(was)
			longer := slices.Clone(was)
			longer[len(longer)-1] |= 128
			for name, form := range map[string][]byte{
				"a longer form":    append(longer, 0),
				"2^32 more":        shortest(v + 1<<32),
				"2^56 more":        shortest(v + 1<<56),
				"2^63 more":        num.Encode(uint64(v) + 1<<63),
				"2^63 - 1":         num.Encode(math.MaxInt),
				"2^64 - 1":         num.Encode(math.MaxUint64),
				"ten bytes":        slices.Repeat([]byte{0xff}, 10),
				"a tenth byte 2":   append(slices.Repeat([]byte{0x80}, 9), 2),
				"no byte":          {},
				"MaxImage and one": shortest(api.MaxImage + 1),
			} {
				p.numbers[k] = form
				expectBent(t, name, p, i, api.ErrFrameForm)
			}
		}
	}
}

// P18.5: sizes that may not be, each by itself.
func TestSizesOfWindows(t *testing.T) {
	_, l := base()
	control := []byte{3, 2, 0, 1, 0, 0}
	for _, c := range []struct {
		name string
		p    part
		want api.Errno
	}{
		{"as it should be", pressedPart(4, control, make([]byte, 4), make([]byte, 2)), api.OK},
		{"Pos at Old", pressedPart(10, control, make([]byte, 4), make([]byte, 2)), api.OK},
		{"Pos one more", pressedPart(11, control, make([]byte, 4), make([]byte, 2)), api.ErrFrameForm},
		{"no control", pressedPart(4, nil, make([]byte, 4), make([]byte, 2)), api.ErrFrameForm},
		{"one less", pressedPart(4, []byte{3, 1, 0, 1, 0, 0}, make([]byte, 4), make([]byte, 1)), api.ErrFrameForm},
		{"one more", pressedPart(4, []byte{3, 3, 0, 1, 0, 0}, make([]byte, 4), make([]byte, 3)), api.ErrFrameForm},
		{"as many as another window", pressedPart(4, []byte{3, 61, 0}, make([]byte, 3), make([]byte, 61)), api.ErrFrameForm},
		{"a control that is too long", pressedPart(4, make([]byte, 385), make([]byte, 4), make([]byte, 2)), api.ErrFrameForm},
		{"no Diff", pressedPart(4, []byte{0, 6, 0}, nil, make([]byte, 6)), api.OK},
		{"no Extra", pressedPart(4, []byte{6, 0, 0}, make([]byte, 6), nil), api.OK},
		{"no Diff, and a stream of none", partOf(4, [3][]byte{{0, 6, 0}, nil, make([]byte, 6)}, [3][]byte{pressed([]byte{0, 6, 0}, options(100)), {3, 0}, pressed(make([]byte, 6), options(100))}), api.ErrFrameForm},
		{"no Extra, and a byte", partOf(4, [3][]byte{{6, 0, 0}, make([]byte, 6), nil}, [3][]byte{pressed([]byte{6, 0, 0}, options(100)), pressed(make([]byte, 6), options(100)), {0}}), api.ErrFrameForm},
	} {
		expectBent(t, c.name, c.p, 2, c.want)
	}
	for k := range 3 {
		p := l[2]
		p.streams[k], p.numbers[4+k] = nil, []byte{0}
		expectBent(t, "no stream", p, 2, api.ErrFrameForm)
	}
}

// padded: a stream of these bytes that has just so many bytes itself, by blocks of nothing ahead of them.
func padded(t *testing.T, raw []byte, size int) []byte {
	t.Helper()
	tokens := make([]api.Token, len(raw))
	for i, v := range raw {
		tokens[i] = api.Token{Lit: v}
	}
	for sixes := range 5 {
		var w bits.Writer
		put := func(kind block.Kind, last bool, data []byte, l ...api.Token) {
			if err := block.Write(&w, kind, last, data, l...); err != api.OK {
				t.Fatal(err)
			}
		}
		for range sixes {
			put(block.Plain, false, nil)
			put(block.Stored, false, nil)
		}
		for w.Len()/8+5+len(raw) < size {
			put(block.Stored, false, nil)
		}
		put(block.Stored, true, raw, tokens...)
		if b := w.Bytes(); len(b) == size {
			return b
		}
	}
	t.Fatalf("no stream of %d bytes", size)
	return nil
}

// P18.5: streams of just as many bytes as they may have, and of one more.
func TestLongestStreams(t *testing.T) {
	raw := [3][]byte{{3, 2, 0, 1, 0, 0}, {1, 2, 3, 4}, {5, 6}}
	for k := range 3 {
		most := 4*len(raw[k]) + 64
		for _, c := range []struct {
			size int
			want api.Errno
		}{{most - 1, api.OK}, {most, api.OK}, {most + 1, api.ErrFrameForm}} {
			p := pressedPart(4, raw[:]...)
			p.streams[k] = padded(t, raw[k], c.size)
			p.numbers[4+k] = shortest(c.size)
			if got, err := swell.All(p.streams[k], 100, len(raw[k])); !bytes.Equal(got, raw[k]) || err != api.OK {
				t.Fatal(got, err)
			}
			expectBent(t, "a long stream", p, 2, c.want)
		}
	}
}

// P18.5: streams that are too short, too long, are none, make fewer or more bytes than Raw says, or have bytes left over.
func TestWrongStreams(t *testing.T) {
	raw := [3][]byte{{3, 2, 0, 1, 0, 0}, {1, 2, 3, 4}, {5, 6}}
	bend := func(name string, k int, stream []byte) {
		t.Helper()
		p := pressedPart(4, raw[:]...)
		p.streams[k], p.numbers[4+k] = stream, shortest(len(stream))
		expectBent(t, name, p, 2, api.ErrFrameForm)
		// The streams are not of the size that is told, so that the next one is read from elsewhere.
		was := pressedPart(4, raw[:]...)
		p.numbers[4+k] = was.numbers[4+k]
		if len(stream) != len(was.streams[k]) {
			expectBent(t, name+", as of another size", p, 2, api.ErrFrameForm)
		}
	}
	for k := range 3 {
		right := pressed(raw[k], options(100))
		for n := 1; n < len(right); n++ {
			bend("too short", k, right[:n])
			bend("its end alone", k, right[n:])
		}
		bend("too long", k, append(slices.Clone(right), 0))
		bend("another stream behind it", k, append(slices.Clone(right), 3, 0))
		bend("none", k, []byte{7})
		bend("none", k, slices.Repeat([]byte{7}, len(right)))
		bend("of nothing", k, []byte{3, 0})
		bend("one byte less", k, pressed(raw[k][1:], options(100)))
		bend("one byte less", k, pressed(raw[k][:len(raw[k])-1], options(100)))
		bend("one byte more", k, pressed(append(slices.Clone(raw[k]), 0), options(100)))
		bend("one byte more", k, pressed(append(slices.Clone(raw[k]), raw[k]...), options(100)))
		bend("a stored block cut short", k, append([]byte{1, byte(len(raw[k])), 0, ^byte(len(raw[k])), 255}, raw[k][1:]...))
		bend("a block that is not the last one", k, append([]byte{0, byte(len(raw[k])), 0, ^byte(len(raw[k])), 255}, raw[k]...))
	}
	// All three have another size, and together as many bytes.
	p := pressedPart(4, raw[:]...)
	p.streams[1], p.streams[2] = pressed(raw[1][:3], options(100)), pressed([]byte{5, 6, 7}, options(100))
	p.numbers[5], p.numbers[6] = shortest(len(p.streams[1])), shortest(len(p.streams[2]))
	expectBent(t, "one byte of Diff is in Extra", p, 2, api.ErrFrameForm)
}

// P18.5: streams that Press would not make are taken, too; the bits up to a byte's end are not looked at.
func TestOtherStreams(t *testing.T) {
	raw := [3][]byte{{3, 2, 0, 1, 0, 0}, {1, 2, 3, 4}, {5, 6}}
	for k := range 3 {
		p := pressedPart(4, raw[:]...)
		p.streams[k] = append([]byte{0xf9, byte(len(raw[k])), 0, ^byte(len(raw[k])), 255}, raw[k]...)
		p.numbers[4+k] = shortest(len(p.streams[k]))
		expectBent(t, "a stored block, with bits that are not looked at", p, 2, api.OK)
	}
}

// P18.5: distances within a stream reach as far as the header's Look, and no further.
func TestLookOfStreams(t *testing.T) {
	r := rolls(8)
	text := make([]byte, 200)
	for i := range text {
		text[i] = byte(r.below(256))
	}
	for _, dist := range []int{1, 2, 3, 50, 149, 150, 199, 200} {
		tokens := []api.Token{}
		for _, v := range text {
			tokens = append(tokens, api.Token{Lit: v})
		}
		tokens = append(tokens, api.Token{Len: 20, Dist: dist})
		data := slices.Clone(text)
		for range 20 {
			data = append(data, data[len(data)-dist])
		}
		var w bits.Writer
		if err := block.Write(&w, block.Plain, true, data, tokens...); err != api.OK {
			t.Fatal(err)
		}
		for _, look := range []int{dist - 1, dist, dist + 1, 1, 200, 219, 220, 221, 32768} {
			if look == 0 {
				continue
			}
			h := api.Head{Old: 4, New: 220, Window: 256, Look: look}
			control := pressed([]byte{0, 220 | 128, 1, 0}, options(1))
			p := partOf(0, [3][]byte{make([]byte, 4), nil, data}, [3][]byte{control, nil, w.Bytes()})
			want := api.ErrFrameForm
			if dist <= look {
				want = api.OK
			}
			if err := holdDecode(t, sealed(headBytes(h), p.bytes())); err != want {
				t.Errorf("a distance of %d by Look %d: %v", dist, look, err)
			}
		}
	}
	// One that leads ahead of the stream's beginning, however wide Look is.
	var w bits.Writer
	tokens := []api.Token{{Lit: 7}, {Lit: 8}, {Len: 3, Dist: 3}}
	if err := block.Write(&w, block.Plain, true, make([]byte, 5), tokens...); err != api.OK {
		t.Fatal(err)
	}
	h := api.Head{New: 5, Window: 64, Look: 32768}
	p := partOf(0, [3][]byte{make([]byte, 3), nil, make([]byte, 5)}, [3][]byte{pressed([]byte{0, 5, 0}, options(100)), nil, w.Bytes()})
	if err := holdDecode(t, sealed(headBytes(h), p.bytes())); err != api.ErrFrameForm {
		t.Error(err)
	}
}

// P18.5: controls that Uncontrol does not take, and steps that may not be over MaxImage old bytes; readings beyond Old are taken.
func TestControlsOfWindows(t *testing.T) {
	far := 1 << 24
	bytesOf := func(l ...int) []byte {
		var out []byte
		for i, v := range l {
			if i%3 == 2 {
				out = append(out, num.Encode(num.Zig(v))...)
			} else {
				out = append(out, shortest(v)...)
			}
		}
		return out
	}
	for _, c := range []struct {
		name    string
		pos     int
		control []byte
		diff    int
		want    api.Errno
	}{
		{"as it should be", 4, bytesOf(3, 2, 0, 1, 0, 0), 4, api.OK},
		{"one byte", 4, []byte{6}, 6, api.ErrFrameForm},
		{"within a step", 4, bytesOf(3, 2, 0, 1), 4, api.ErrFrameForm},
		{"without the last number", 4, bytesOf(3, 2, 0, 1, 0), 4, api.ErrFrameForm},
		{"a byte more", 4, append(bytesOf(3, 2, 0, 1, 0, 0), 0), 4, api.ErrFrameForm},
		{"within a number", 4, append(bytesOf(3, 2, 0, 1, 0), 0x80), 4, api.ErrFrameForm},
		{"a longer form", 4, append(bytesOf(3, 2, 0, 1, 0), 0x80, 0), 4, api.ErrFrameForm},
		{"a longer form first", 4, []byte{0x83, 0, 2, 0, 1, 0, 0}, 4, api.ErrFrameForm},
		{"a number too long", 4, append(bytesOf(3, 2, 0, 1, 0), slices.Repeat([]byte{255}, 10)...), 4, api.ErrFrameForm},
		{"an Add too great", 4, bytesOf(65537, 2, 0), 4, api.ErrFrameForm},
		{"a Copy too great", 4, bytesOf(4, 65537, 0), 4, api.ErrFrameForm},
		{"a Seek too great", 4, bytesOf(3, 2, far+1, 1, 0, 0), 4, api.ErrFrameForm},
		{"an Add that would go round", 4, append(num.Encode(math.MaxUint64), 2, 0), 4, api.ErrFrameForm},
		{"an Add one more", 4, bytesOf(3, 2, 0, 2, 0, 0), 4, api.ErrFrameForm},
		{"an Add one less", 4, bytesOf(3, 2, 0), 4, api.ErrFrameForm},
		{"a Copy one more", 4, bytesOf(3, 2, 0, 1, 1, 0), 4, api.ErrFrameForm},
		{"a Copy one less", 4, bytesOf(3, 1, 0, 1, 0, 0), 4, api.ErrFrameForm},
		{"the other way about", 4, bytesOf(2, 4, 0), 4, api.ErrFrameForm},
		{"an empty step", 4, bytesOf(3, 2, 0, 0, 0, 0, 1, 0, 0), 4, api.ErrFrameForm},
		{"an empty step at last", 4, bytesOf(3, 2, 0, 1, 0, 0, 0, 0, 0), 4, api.ErrFrameForm},
		{"the last Seek", 4, bytesOf(3, 2, 0, 1, 0, 1), 4, api.ErrFrameForm},
		{"a Seek to 0", 4, bytesOf(3, 2, -7, 1, 0, 0), 4, api.OK},
		{"a Seek to -1", 4, bytesOf(3, 2, -8, 1, 0, 0), 4, api.ErrFrameForm},
		{"reading just within Old", 4, bytesOf(3, 2, 2, 1, 0, 0), 4, api.OK},
		{"reading beyond Old", 4, bytesOf(3, 2, 3, 1, 0, 0), 4, api.OK},
		{"reading beyond Old, from Pos on", 10, bytesOf(4, 2, 0), 4, api.OK},
		{"reading just within MaxImage", 4, bytesOf(3, 2, far-8, 1, 0, 0), 4, api.OK},
		{"reading beyond MaxImage", 4, bytesOf(3, 2, far-7, 1, 0, 0), 4, api.ErrFrameForm},
		{"leading to MaxImage", 4, bytesOf(3, 2, far-7, 0, 1, 0), 3, api.OK},
		{"leading beyond MaxImage", 4, bytesOf(3, 2, far-6, 0, 1, 0), 3, api.ErrFrameForm},
		{"leading beyond MaxImage, and back", 4, bytesOf(3, 1, far-6, 0, 1, -far, 1, 0, 0), 4, api.ErrFrameForm},
	} {
		expectBent(t, c.name, pressedPart(c.pos, c.control, make([]byte, c.diff), make([]byte, 6-c.diff)), 2, c.want)
	}
}

// P18.5: a patch cut short at each place, and with bytes behind it; each with a right sum, too.
func TestPatchCutShort(t *testing.T) {
	h, l := base()
	b := sealed(headBytes(h), l[0].bytes(), l[1].bytes(), l[2].bytes())
	for n := range b {
		if err := holdDecode(t, b[:n]); err != api.ErrFrameForm {
			t.Errorf("the first %d bytes: %v", n, err)
		}
		if n == len(b)-4 {
			continue // with its sum it is the patch
		}
		want := api.ErrFrameForm
		if head := len(headBytes(h)); n > head-4 && n < head {
			want = api.ErrFrameSum // these are as many bytes as a header has, and the sum's place is told
		}
		if err := holdDecode(t, sealed(b[:n])); err != want {
			t.Errorf("the first %d bytes, and their sum: %v", n, err)
		}
	}
	for _, more := range [][]byte{{0}, {1}, {255, 255}, {0, 0, 0, 0}, b} {
		if err := holdDecode(t, slices.Concat(b, more)); err != api.ErrFrameForm {
			t.Errorf("% x behind it: %v", more, err)
		}
		if err := holdDecode(t, sealed(b, more)); err != api.ErrFrameForm {
			t.Errorf("% x behind it, and a sum: %v", more, err)
		}
		if err := holdDecode(t, sealed(b[:len(b)-4], more)); err != api.ErrFrameForm {
			t.Errorf("% x behind the windows, and a sum: %v", more, err)
		}
	}
	// A window too few and too many, with a right sum.
	if err := holdDecode(t, sealed(headBytes(h), l[0].bytes(), l[1].bytes())); err != api.ErrFrameForm {
		t.Error("a window too few:", err)
	}
	if err := holdDecode(t, sealed(headBytes(h), l[0].bytes(), l[1].bytes(), l[2].bytes(), l[2].bytes())); err != api.ErrFrameForm {
		t.Error("a window too many:", err)
	}
	if err := holdDecode(t, sealed(headBytes(h), l[2].bytes(), l[1].bytes(), l[0].bytes())); err != api.ErrFrameForm {
		t.Error("another order:", err)
	}
}

// P18.5: the chapter's fourth example, and which error comes first.
func TestOrderOfDecode(t *testing.T) {
	h, l := base()
	head := headBytes(h)
	windows := slices.Concat(l[0].bytes(), l[1].bytes(), l[2].bytes())
	bad := l
	bad[1].streams[2] = slices.Repeat([]byte{7}, len(bad[1].streams[2]))
	wrongWindows := slices.Concat(bad[0].bytes(), bad[1].bytes(), bad[2].bytes())
	turned := func(b []byte) []byte {
		b = slices.Clone(b)
		b[len(b)-1] ^= 1
		return b
	}
	none := h
	none.Look = 0
	for _, c := range []struct {
		name string
		b    []byte
		want api.Errno
	}{
		{"as it should be", sealed(head, windows), api.OK},
		{"a byte more", append(sealed(head, windows), 0), api.ErrFrameForm},
		{"its last byte turned", turned(sealed(head, windows)), api.ErrFrameSum},
		{"the header's sum turned", sealed(turned(head), windows), api.ErrFrameSum},
		{"both sums turned", turned(sealed(turned(head), windows)), api.ErrFrameSum},
		{"the header's sum turned, and a wrong window", sealed(turned(head), wrongWindows), api.ErrFrameSum},
		{"the header's sum turned, and nothing behind it", turned(head), api.ErrFrameSum},
		{"the header's sum turned, and a byte more", append(sealed(turned(head), windows), 0), api.ErrFrameSum},
		{"a wrong window", sealed(head, wrongWindows), api.ErrFrameForm},
		{"a wrong window and another sum", turned(sealed(head, wrongWindows)), api.ErrFrameForm},
		{"another sum and a byte more", append(turned(sealed(head, windows)), 0), api.ErrFrameForm},
		{"no sum", slices.Concat(head, windows), api.ErrFrameForm},
		{"three bytes of the sum", sealed(head, windows)[:len(head)+len(windows)+3], api.ErrFrameForm},
		{"a header that may not be", sealed(headBytes(none), windows), api.ErrFrameForm},
		{"a header that may not be, and another sum of it", sealed(turned(headBytes(none)), windows), api.ErrFrameForm},
		{"the sum of the windows alone", slices.Concat(head, sealed(windows)), api.ErrFrameSum},
		{"no bytes", nil, api.ErrFrameForm},
	} {
		if err := holdDecode(t, c.b); err != c.want {
			t.Errorf("%s: %v", c.name, err)
		}
	}
}

// P18.5: headers of many windows that are not there end at once.
func TestWindowsThatAreNotThere(t *testing.T) {
	for _, size := range []int{1, 64, 1 << 24} {
		h := api.Head{Old: 1 << 24, New: size, Window: 64, Look: 32768}
		for _, b := range [][]byte{headBytes(h), sealed(headBytes(h)), sealed(headBytes(h), make([]byte, 1000))} {
			if err := holdDecode(t, b); err != api.ErrFrameForm {
				t.Error(err)
			}
		}
	}
}

// P18.5: of patches that are bent and have a right sum nevertheless, so that what they say is looked at; and of bytes that are drawn.
func TestDecodeOfDrawn(t *testing.T) {
	r := rolls(9)
	taken, refused := 0, 0
	for range 900 {
		h := r.head()
		parts := [][]byte{}
		for _, w := range r.windows(h) {
			parts = append(parts, windowBytes(w, r.options(h.Look)))
		}
		for range 6 {
			l := slices.Clone(parts)
			if len(l) > 0 {
				k := r.below(len(l))
				l[k] = r.bent(l[k])
			}
			head := headBytes(h)
			if r.below(3) == 0 {
				head = sealed(r.bent(head[:len(head)-4]))
			}
			if holdDecode(t, sealed(head, slices.Concat(l...))) == api.OK {
				taken++
			} else {
				refused++
			}
		}
		holdDecode(t, r.bent(sealed(headBytes(h), slices.Concat(parts...))))
		holdDecode(t, r.data(r.below(60)))
		holdDecode(t, sealed(headBytes(h), r.data(r.below(60))))
	}
	if taken < 400 || refused < 3000 {
		t.Errorf("%d were taken, %d refused", taken, refused)
	}
}
