package maker_test

import (
	"bytes"
	"slices"
	"testing"

	"sapper/api"
	"sapper/frame"
	"sapper/maker"
)

// P20.1: each of the options at its bounds, one beyond each, and at the ends of all numbers.
func TestOptions(t *testing.T) {
	for _, c := range choices() {
		want := api.ErrMakeOption
		if c.may {
			want = api.OK
		}
		if err := maker.Options(c.o); err != want || optionsOf(c.o) != want {
			t.Errorf("%s: Options(%v) = %v, not %v", c.name, c.o, err, want)
		}
	}
}

// P20.1: of several that may not be there is one error.
func TestOptionsAllWrong(t *testing.T) {
	for _, a := range choices() {
		for _, b := range choices() {
			o := a.o
			o.Press = b.o.Press
			if err := maker.Options(o); err != optionsOf(o) {
				t.Errorf("Options(%v) = %v, not %v", o, err, optionsOf(o))
			}
		}
	}
}

// P20.2: options that may be are taken, others refused with ErrMakeOption, by all that make a patch; beside the error there is nothing.
func TestOptionsOfPlan(t *testing.T) {
	old, next := []byte("abcdefghij0123456789"), []byte("abcdefghijxyz0123456789")
	for _, c := range choices() {
		holdPlan(t, old, next, c.o)
		h, l, err := maker.Plan(old, next, c.o)
		p, errG := maker.Generate(old, next, c.o)
		if c.may {
			if err != api.OK || errG != api.OK || len(l) != 1 || len(p) == 0 {
				t.Errorf("%s: %v: %v, %v, %v; % x, %v", c.name, c.o, h, l, err, p, errG)
			}
			continue
		}
		if h != (api.Head{}) || l != nil || err != api.ErrMakeOption || p != nil || errG != api.ErrMakeOption {
			t.Errorf("%s: %v: %v, %v, %v; % x, %v", c.name, c.o, h, l, err, p, errG)
		}
	}
}

// P20.2: the chapter's examples 2 and 3, and others, written out.
func TestPlanOfFew(t *testing.T) {
	noughts := make([]byte, 10)
	other := usual()
	other.Window, other.Press.Look.Window = 65, 7
	for _, c := range []struct {
		name, old, next string
		o               api.Options
		head            api.Head
		windows         []api.Window
	}{
		{"neither", "", "", usual(), api.Head{Window: 64, Look: 100}, nil},
		{"from none", "", "abc", usual(), api.Head{New: 3, NewSum: 0x352441c2, Window: 64, Look: 100}, []api.Window{
			{Edit: api.Edit{Steps: steps(0, 3, 0), Extra: []byte("abc")}},
		}},
		{"to none", "abc", "", usual(), api.Head{Old: 3, OldSum: 0x352441c2, Window: 64, Look: 100}, nil},
		{"to itself", "abcdefghij", "abcdefghij", usual(), api.Head{Old: 10, New: 10, OldSum: 0x3981703a, NewSum: 0x3981703a, Window: 64, Look: 100}, []api.Window{
			{Edit: api.Edit{Steps: steps(10, 0, 0), Diff: noughts}},
		}},
		{"other options", "abcdefghij0123456789", "0123456789xabcdefghij", other, api.Head{Old: 20, New: 21, OldSum: sumOf([]byte("abcdefghij0123456789")), NewSum: sumOf([]byte("0123456789xabcdefghij")), Window: 65, Look: 7}, []api.Window{
			{Pos: 10, Edit: api.Edit{Steps: steps(10, 1, -20, 10, 0, 0), Diff: make([]byte, 20), Extra: []byte("x")}},
		}},
	} {
		h, l, err := maker.Plan([]byte(c.old), []byte(c.next), c.o)
		if h != c.head || !sameWindows(l, c.windows) || err != api.OK {
			t.Errorf("%s: %v, %v, %v, not %v, %v", c.name, h, l, err, c.head, c.windows)
		}
		holdPlan(t, []byte(c.old), []byte(c.next), c.o)
	}
}

// P20.2: the chapter's example 1, and one with a window, byte by byte.
func TestGenerateOfFew(t *testing.T) {
	none := []byte{
		'S', 'A', 'P', 'R', 1, 0, 0, 64, 100, 0, 0, 0, 0, 0, 0, 0, 0,
		0, 0, 0, 0,
		0x1c, 0xdf, 0x44, 0x21, // the sum of any bytes with their own sum behind them
	}
	seal(none, 17)
	if p := mustGenerate(t, nil, nil, usual()); !bytes.Equal(p, none) || len(p) != 25 {
		t.Errorf("% x", p)
	}
	abc := []byte{
		'S', 'A', 'P', 'R', 1, 0, 3, 64, 100, 0, 0, 0, 0, 0xc2, 0x41, 0x24, 0x35,
		0, 0, 0, 0,
		0, 3, 0, 3, 5, 0, 5, // Pos, the raw sizes, the packed ones
		0x63, 0x60, 0x66, 0x00, 0x00, // 0, 3, 0
		0x4b, 0x4c, 0x4a, 0x06, 0x00, // abc
		0, 0, 0, 0,
	}
	seal(abc, 17)
	seal(abc, len(abc)-4)
	if p := mustGenerate(t, nil, []byte("abc"), usual()); !bytes.Equal(p, abc) {
		t.Errorf("% x, not % x", p, abc)
	}
}

// seal: the sum of all bytes ahead of a place is put there.
func seal(b []byte, at int) { copy(b[at:], four(sumOf(b[:at]))) }

// P20.2: no bytes, images of just a window and of one, two or three; one byte less and one more.
func TestPlanAtWindows(t *testing.T) {
	r := rolls(1)
	sizes := []int{0, 1, 2, 8, 9, 10, 63, 64, 65, 127, 128, 129, 192}
	for _, o := range []api.Options{usual(), r.options(), r.options()} {
		for _, n := range sizes {
			for _, m := range sizes {
				old := r.data(n)
				holdPlan(t, old, r.data(m), o)
				holdPlan(t, old, slices.Concat(old, old, old)[:min(m, 3*n)], o)
			}
		}
	}
	for _, size := range []int{64, 65, 100, 65535, 65536} {
		o := usual()
		o.Window = size
		for _, n := range []int{size - 1, size, size + 1, 2 * size} {
			next := make([]byte, n)
			h, l, err := maker.Plan(next[:5], next, o)
			if want := (n + size - 1) / size; h.New != n || len(l) != want || err != api.OK {
				t.Errorf("%d bytes in windows of %d: %v, %d of them, %v", n, size, h, len(l), err)
			}
			holdPlan(t, nil, next, o)
		}
	}
}

// P20.2: drawn images that are alike in parts, by drawn options.
func TestPlanOfDrawn(t *testing.T) {
	r := rolls(2)
	most := 0
	for range 1500 {
		old := r.image()
		next := r.next(old)
		holdPlan(t, old, next, r.options())
		_, l, _ := maker.Plan(old, next, usual())
		most = max(most, len(l))
	}
	if most < 4 {
		t.Error("no more windows than", most)
	}
}

// P20.2: an image of MaxImage bytes is taken, one of a byte more refused, old and new, ahead of what the options are.
func TestPlanOfMany(t *testing.T) {
	many := make([]byte, api.MaxImage+1)
	wrong := usual()
	wrong.Window = 63
	for _, c := range []struct {
		name      string
		old, next []byte
		o         api.Options
		want      api.Errno
	}{
		{"old", many, nil, usual(), api.ErrMakeMany},
		{"next", nil, many, usual(), api.ErrMakeMany},
		{"both", many, many, usual(), api.ErrMakeMany},
		{"old, options", many, nil, wrong, api.ErrMakeMany},
		{"next, options", nil, many, wrong, api.ErrMakeMany},
		{"just as many, options", many[1:], many[1:], wrong, api.ErrMakeOption},
		{"no options", many, many, api.Options{}, api.ErrMakeMany},
	} {
		h, l, err := maker.Plan(c.old, c.next, c.o)
		p, errG := maker.Generate(c.old, c.next, c.o)
		if h != (api.Head{}) || l != nil || err != c.want || p != nil || errG != c.want {
			t.Errorf("%s: %v, %d windows, %v; %d bytes, %v", c.name, h, len(l), err, len(p), errG)
		}
		b, place, err := maker.Best(c.old, c.next, c.o)
		if b != nil || place != 0 || err != c.want {
			t.Errorf("%s: Best: %d bytes, %d, %v", c.name, len(b), place, err)
		}
	}
}

// P20.2, P20.3, P20.10: just as many bytes as an image may have: from none, to none, and both.
func TestJustMaxImage(t *testing.T) {
	many := make([]byte, api.MaxImage)
	many[0], many[api.MaxImage-1] = 1, 2
	sum := sumOf(many)
	o := api.Options{Window: 65536, Press: api.Press{Look: api.Look{Window: 32768, Chain: 1}, Block: 65536}}
	for _, c := range []struct {
		name      string
		old, next []byte
		head      api.Head
	}{
		{"from none", nil, many, api.Head{New: 1 << 24, NewSum: sum, Window: 65536, Look: 32768}},
		{"to none", many, nil, api.Head{Old: 1 << 24, OldSum: sum, Window: 65536, Look: 32768}},
		{"to itself", many, many, api.Head{Old: 1 << 24, New: 1 << 24, OldSum: sum, NewSum: sum, Window: 65536, Look: 32768}},
	} {
		p := mustGenerate(t, c.old, c.next, o)
		h, l, err := frame.Decode(p)
		if h != c.head || len(l) != len(c.next)/65536 || err != api.OK {
			t.Errorf("%s: %v, %d windows, %v", c.name, h, len(l), err)
		}
		for i, w := range l {
			at, want := i*65536, steps(65536, 0, 0)
			if len(c.old) == 0 {
				at, want = 0, steps(0, 65536, 0)
			}
			if w.Pos != at || !slices.Equal(w.Edit.Steps, want) {
				t.Errorf("%s: window %d: %d, %v", c.name, i, w.Pos, w.Edit.Steps)
			}
		}
		if b, err := maker.Meaning(p, c.old); !bytes.Equal(b, c.next) || err != api.OK {
			t.Errorf("%s: Meaning: %d bytes, %v", c.name, len(b), err)
		}
		if b, err := maker.Meaning(p, append(slices.Clone(c.old), 0)); b != nil || err != api.ErrMakeOld {
			t.Errorf("%s, a byte more: Meaning: %d bytes, %v", c.name, len(b), err)
		}
	}
	for _, c := range [][2][]byte{{nil, many}, {many, nil}} {
		if h, l, err := maker.Plan(c[0], c[1], o); h.Old != len(c[0]) || h.New != len(c[1]) || len(l) != len(c[1])/65536 || err != api.OK {
			t.Errorf("Plan: %v, %d windows, %v", h, len(l), err)
		}
	}
	// Five bytes, four numbers of 4, 1, 1 and 1, two sums and its own; and the patch's sum.
	if p, place, err := maker.Best(many, nil, usual(), o); len(p) != 28 || place != 0 || err != api.OK {
		t.Errorf("Best: %d bytes, %d, %v", len(p), place, err)
	}
}
