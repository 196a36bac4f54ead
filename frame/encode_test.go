package frame_test

import (
	"bytes"
	"compress/flate"
	"io"
	"slices"
	"testing"

	"sapper/api"
	"sapper/cutter"
	"sapper/frame"
	"sapper/press"
)

// holdEncode: P18.4, by the chapter's words; P18.7, P18.6, if there is a patch.
func holdEncode(t *testing.T, h api.Head, o api.Press, l ...api.Window) ([]byte, api.Errno) {
	t.Helper()
	b, err := frame.Encode(h, o, l...)
	want, wantErr := encodeOf(h, o, l)
	if !bytes.Equal(b, want) || err != wantErr {
		t.Fatalf("Encode(%v, %v, %v) = % x, %v, not % x, %v", h, o, l, b, err, want, wantErr)
	}
	if err != api.OK {
		return nil, err
	}
	back, windows, err := frame.Decode(b)
	if back != h || !sameWindows(windows, l) || err != api.OK {
		t.Fatalf("Decode(Encode(%v, %v, %v)) = %v, %v, %v", h, o, l, back, windows, err)
	}
	return b, api.OK
}

// P18.4: the chapter's example without windows, and a patch whose bytes are written out.
func TestExamplesOfEncode(t *testing.T) {
	h := api.Head{Window: 64, Look: 100}
	b, err := frame.Encode(h, options(100))
	if len(b) != 25 || !bytes.Equal(b, sealed(headBytes(h))) || err != api.OK {
		t.Errorf("% x, %v", b, err)
	}
	h.New = 1
	w := api.Window{Edit: api.Edit{Steps: steps(0, 1, 0), Extra: []byte("a")}}
	control, _ := press.Press([]byte{0, 1, 0}, options(100))
	want := sealed(headBytes(h), []byte{0, 3, 0, 1, byte(len(control)), 0, 3}, control, []byte{0x4b, 0x04, 0x00})
	if b, err := frame.Encode(h, options(100), w); !bytes.Equal(b, want) || err != api.OK {
		t.Errorf("% x, %v, not % x", b, err, want)
	}
	h.Old = 5
	w = api.Window{Pos: 4, Edit: api.Edit{Steps: steps(1, 0, 0), Diff: []byte("a")}}
	control, _ = press.Press([]byte{1, 0, 0}, options(100))
	want = sealed(headBytes(h), []byte{4, 3, 1, 0, byte(len(control)), 3, 0}, control, []byte{0x4b, 0x04, 0x00})
	if b, err := frame.Encode(h, options(100), w); !bytes.Equal(b, want) || err != api.OK {
		t.Errorf("% x, %v, not % x", b, err, want)
	}
}

// P18.4: windows of one byte, of all bytes of a window, without Diff, without Extra, of many steps, and none at all.
func TestKindsOfWindows(t *testing.T) {
	for _, c := range []struct {
		old, size int
		l         []api.Window
	}{
		{0, 0, nil},
		{9, 0, nil},
		{0, 1, []api.Window{window(0, 0, 1, 0)}},
		{1, 1, []api.Window{window(0, 1, 0, 0)}},
		{64, 64, []api.Window{window(0, 64, 0, 0)}},
		{0, 64, []api.Window{window(0, 0, 64, 0)}},
		{64, 65, []api.Window{window(0, 64, 0, 0), window(64, 0, 1, 0)}},
		{70, 128, []api.Window{window(6, 30, 2, -36, 32, 0, 0), window(0, 0, 4, 70, 0, 60, 0)}},
		{2, 70, []api.Window{window(2, 0, 62, -2, 2, 0, 0), window(1, 1, 0, -2, 1, 3, 1, 0, 1, 0)}},
		{1 << 24, 3, []api.Window{window(1<<24, 0, 1, -1<<24, 1, 0, 1<<24-2, 1, 0, 0)}},
	} {
		h := api.Head{Old: c.old, New: c.size, OldSum: 1, NewSum: 1<<32 - 1, Window: 64, Look: 100}
		if _, err := holdEncode(t, h, options(100), c.l...); err != api.OK {
			t.Errorf("%v: %v", c, err)
		}
	}
}

// P18.4: the most steps that a window can have, each with the longest numbers.
func TestLongestControl(t *testing.T) {
	var l []api.Step
	var diff []byte
	for i := range 64 {
		seek := 1<<24 - 2
		if i%2 == 1 {
			seek = -1 << 24
		}
		if i == 63 {
			seek = 0
		}
		l, diff = append(l, api.Step{Add: 1, Seek: seek}), append(diff, byte(i))
	}
	w := api.Window{Edit: api.Edit{Steps: l, Diff: diff}}
	if control, err := cutter.Control(l...); len(control) != 63*6+3 || err != api.OK {
		t.Fatal(len(control), err)
	}
	for _, block := range []int{1, 2, 65536} {
		for _, chain := range []int{0, 100} {
			o := api.Press{Look: api.Look{Window: 32768, Chain: chain}, Block: block}
			if _, err := holdEncode(t, api.Head{Old: 1 << 24, New: 64, Window: 64, Look: 32768}, o, w); err != api.OK {
				t.Error(err)
			}
		}
	}
}

// P18.4: one window too few and too many, and those of another size; readings just within Old, and one beyond.
func TestWrongWindows(t *testing.T) {
	h := api.Head{Old: 10, New: 130, Window: 64, Look: 100}
	a, b, last := window(0, 10, 54, 0), window(5, 5, 59, 0), window(8, 2, 0, 0)
	for _, c := range []struct {
		name string
		l    []api.Window
		may  bool
	}{
		{"as they should be", []api.Window{a, b, last}, true},
		{"none", nil, false},
		{"one too few", []api.Window{a, b}, false},
		{"one too few, the last one there", []api.Window{a, last}, false},
		{"one too many", []api.Window{a, b, last, last}, false},
		{"one too many, an empty one", []api.Window{a, b, last, {}}, false},
		{"one too many, within", []api.Window{a, b, b, last}, false},
		{"the last one first", []api.Window{last, a, b}, false},
		{"the last one as the others", []api.Window{a, b, a}, false},
		{"the last one less", []api.Window{a, b, window(8, 1, 0, 0)}, false},
		{"the last one more", []api.Window{a, b, window(7, 3, 0, 0)}, false},
		{"the last one empty", []api.Window{a, b, {}}, false},
		{"one less", []api.Window{window(0, 10, 53, 0), b, last}, false},
		{"one more", []api.Window{a, window(5, 5, 60, 0), last}, false},
		{"read one beyond", []api.Window{a, b, window(9, 2, 0, 0)}, false},
		{"read one beyond, by the first", []api.Window{window(0, 11, 53, 0), b, last}, false},
		{"read just within, behind a Seek", []api.Window{a, b, window(0, 1, 0, 8, 1, 0, 0)}, true},
		{"read one beyond, behind a Seek", []api.Window{a, b, window(0, 1, 0, 9, 1, 0, 0)}, false},
		{"Pos just Old", []api.Window{a, b, window(10, 0, 2, 0)}, true},
		{"Pos one more", []api.Window{a, b, window(11, 0, 2, 0)}, false},
		{"Pos -1", []api.Window{a, b, window(-1, 0, 2, 0)}, false},
		{"an empty step", []api.Window{a, b, window(8, 0, 0, 0, 2, 0, 0)}, false},
		{"the last Seek", []api.Window{a, b, window(8, 2, 0, -1)}, false},
		{"a Diff too long", []api.Window{a, b, {Pos: 8, Edit: api.Edit{Steps: steps(2, 0, 0), Diff: []byte{1, 2, 3}}}}, false},
		{"an Extra too long", []api.Window{a, b, {Pos: 8, Edit: api.Edit{Steps: steps(2, 0, 0), Diff: []byte{1, 2}, Extra: []byte{3}}}}, false},
		{"an Extra in the place of a Diff", []api.Window{a, b, {Pos: 8, Edit: api.Edit{Steps: steps(2, 0, 0), Extra: []byte{1, 2}}}}, false},
	} {
		want := api.ErrFrameWindow
		if c.may {
			want = api.OK
		}
		if _, err := holdEncode(t, h, options(100), c.l...); err != want {
			t.Errorf("%s: %v", c.name, err)
		}
	}
	// Of a header without windows each one is too many.
	for _, w := range []api.Window{{}, last} {
		if _, err := holdEncode(t, api.Head{Old: 10, Window: 64, Look: 100}, options(100), w); err != api.ErrFrameWindow {
			t.Error(err)
		}
	}
}

// P18.4: which error comes first: each one, with none, some and all of those behind it.
func TestOrderOfEncode(t *testing.T) {
	right := api.Head{Old: 10, New: 3, Window: 64, Look: 100}
	wrongHeads := []api.Head{}
	for h, may := range heads() {
		if !may {
			wrongHeads = append(wrongHeads, h)
		}
	}
	look := api.Look{Window: 100, Chain: 10}
	wrongOptions := []api.Press{
		{}, {Look: look}, {Look: look, Block: -1}, {Look: look, Block: api.MaxBlock + 1},
		{Look: api.Look{Window: 100, Chain: -1}, Block: 5}, {Look: api.Look{Window: 100, Chain: api.MaxChain + 1}, Block: 5},
		{Look: api.Look{Chain: 10}, Block: 5}, {Look: api.Look{Window: -100, Chain: 10}, Block: 5}, {Look: api.Look{Window: api.MaxLook + 1, Chain: 10}, Block: 5},
	}
	otherLooks := []api.Press{options(99), options(101), options(1), options(api.MaxLook)}
	fine := []api.Window{window(7, 3, 0, 0)}
	wrongWindows := [][]api.Window{nil, {}, {{}}, {window(8, 3, 0, 0)}, {window(7, 2, 0, 0)}, {fine[0], fine[0]}}
	expect := func(h api.Head, o api.Press, l []api.Window, want api.Errno) {
		t.Helper()
		if b, err := frame.Encode(h, o, l...); err != want || err != api.OK && len(b) != 0 {
			t.Errorf("Encode(%v, %v, %v) = % x, %v, not %v", h, o, l, b, err, want)
		}
	}
	expect(right, options(100), fine, api.OK)
	for _, l := range append(wrongWindows, fine) {
		for _, o := range slices.Concat(wrongOptions, otherLooks, []api.Press{options(100)}) {
			for _, h := range wrongHeads {
				expect(h, o, l, api.ErrFrameHead)
			}
		}
		for _, o := range wrongOptions {
			expect(right, o, l, api.ErrPressOption)
		}
		for _, o := range otherLooks {
			expect(right, o, l, api.ErrArg)
		}
	}
	for _, l := range wrongWindows {
		expect(right, options(100), l, api.ErrFrameWindow)
	}
	// A look that may not be is the options' fault, even where the header has another one.
	right.Look = api.MaxLook
	expect(right, wrongOptions[8], fine, api.ErrPressOption)
	expect(right, options(api.MaxLook), fine, api.OK)
}

// P18.4, P18.7: of drawn headers, options and windows, and of windows that are bent.
func TestEncodeOfDrawn(t *testing.T) {
	r := rolls(5)
	refused := 0
	for range 400 {
		h := r.head()
		o := r.options(h.Look)
		l := r.windows(h)
		if _, err := holdEncode(t, h, o, l...); err != api.OK {
			t.Fatalf("Encode(%v, %v, %v): %v", h, o, l, err)
		}
		if len(l) == 0 {
			continue
		}
		for range 3 {
			bent := clonedWindows(l)
			k := r.below(len(l))
			bent[k] = r.bend(bent[k])
			if _, err := holdEncode(t, h, o, bent...); err != api.OK {
				refused++
			}
		}
		holdEncode(t, h, r.options(1+r.below(2*h.Look)), l...)
		h.New += r.below(3) - 1
		holdEncode(t, h, o, l...)
	}
	if refused < 400 {
		t.Errorf("just %d windows were refused", refused)
	}
}

// P18.4: a patch's streams are such as others know.
func TestStreamsAreDeflate(t *testing.T) {
	r := rolls(6)
	for range 300 {
		h := r.head()
		l := r.windows(h)
		b := mustEncode(t, h, r.options(h.Look), l...)
		_, n, _ := readHeadOf(b)
		rest := b[n:]
		for i, w := range l {
			s, behind, is := sizesAt(h, i, rest)
			if !is {
				t.Fatalf("window %d has no sizes", i)
			}
			for k, raw := range streamsOf(w) {
				p := behind[:s.Packed[k]]
				behind = behind[s.Packed[k]:]
				if len(raw) == 0 {
					continue
				}
				from := bytes.NewReader(p)
				got, err := io.ReadAll(flate.NewReader(from))
				if err != nil || !bytes.Equal(got, raw) || from.Len() != 0 {
					t.Fatalf("window %d, stream %d: % x, %v, %d left", i, k, got, err, from.Len())
				}
			}
			rest = behind
		}
	}
}

// P18.4, P18.7: windows of MaxWindow bytes, and images of MaxImage bytes.
func TestLargest(t *testing.T) {
	r := rolls(7)
	h := api.Head{Old: 1 << 24, New: 2*65536 + 1, Window: 65536, Look: 32768}
	o := options(32768)
	o.Block = api.MaxBlock
	l := []api.Window{r.window(h.Old, 65536, 3), r.window(h.Old, 65536, 9000), r.window(h.Old, 1, 1)}
	if _, err := holdEncode(t, h, o, l...); err != api.OK {
		t.Fatal(err)
	}
	h.New, l = 1<<24, nil
	for i := range 256 {
		l = append(l, api.Window{Pos: i << 16, Edit: api.Edit{Steps: steps(65536, 0, 0), Diff: make([]byte, 65536)}})
	}
	b, err := frame.Encode(h, o, l...)
	if err != api.OK {
		t.Fatal(err)
	}
	if got, windows, err := frame.Decode(b); got != h || !sameWindows(windows, l) || err != api.OK {
		t.Fatal(got, len(windows), err)
	}
}
