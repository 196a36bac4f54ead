package cutter_test

import (
	"bytes"
	"math"
	"slices"
	"testing"

	"sapper/api"
	"sapper/cutter"
	"sapper/num"
)

// holdControl: P17.4, P17.8 of steps.
func holdControl(t *testing.T, l ...api.Step) {
	t.Helper()
	b, err := cutter.Control(l...)
	want, wantErr := controlOf(l)
	if !bytes.Equal(b, want) || err != wantErr {
		t.Fatalf("Control(%v) = % x, %v, not % x, %v", l, b, err, want, wantErr)
	}
	if err != api.OK {
		return
	}
	if back, err := cutter.Uncontrol(b); !slices.Equal(back, l) || err != api.OK {
		t.Fatalf("Uncontrol(Control(%v)) = %v, %v", l, back, err)
	}
}

// holdUncontrol: P17.4, P17.8 of bytes.
func holdUncontrol(t *testing.T, b []byte) {
	t.Helper()
	l, err := cutter.Uncontrol(b)
	want, wantErr := uncontrolOf(b)
	if !slices.Equal(l, want) || err != wantErr {
		t.Fatalf("Uncontrol(% x) = %v, %v, not %v, %v", b, l, err, want, wantErr)
	}
	if err != api.OK {
		return
	}
	if again, err := cutter.Control(l...); !bytes.Equal(again, b) || err != api.OK {
		t.Fatalf("Control(Uncontrol(% x)) = % x, %v", b, again, err)
	}
}

// P17.4: the chapter's examples.
func TestExamplesOfControl(t *testing.T) {
	if b, err := cutter.Control(steps(2, 1, -2)...); string(b) != "\x02\x01\x03" || err != api.OK {
		t.Errorf("% x, %v", b, err)
	}
	for _, c := range []struct {
		b    []byte
		want api.Errno
	}{
		{[]byte{2, 1}, api.ErrNumShort}, {[]byte{2, 1, 0x80, 0}, api.ErrNumForm},
		{num.Encode(65537, 0, 0), api.ErrCutWindow}, {num.Encode(65537), api.ErrCutWindow},
	} {
		if l, err := cutter.Uncontrol(c.b); len(l) != 0 || err != c.want {
			t.Errorf("Uncontrol(% x) = %v, %v", c.b, l, err)
		}
	}
}

// P17.4: bytes, written out; steps that make nothing, and no steps, are written, too.
func TestBytesOfControl(t *testing.T) {
	for _, c := range []struct {
		l    []api.Step
		want string
	}{
		{nil, ""},
		{steps(0, 0, 0), "\x00\x00\x00"},
		{steps(0, 0, 5, 0, 0, -1), "\x00\x00\x0a\x00\x00\x01"},
		{steps(127, 128, 64), "\x7f\x80\x01\x80\x01"},
		{steps(300, 0, -64, 1, 2, 3), "\xac\x02\x00\x7f\x01\x02\x06"},
		{steps(api.MaxWindow, api.MaxWindow, api.MaxImage), "\x80\x80\x04\x80\x80\x04\x80\x80\x80\x10"},
		{steps(api.MaxWindow, 0, -api.MaxImage), "\x80\x80\x04\x00\xff\xff\xff\x0f"},
	} {
		if b, err := cutter.Control(c.l...); string(b) != c.want || err != api.OK {
			t.Errorf("Control(%v) = % x, %v", c.l, b, err)
		}
		if l, err := cutter.Uncontrol([]byte(c.want)); !slices.Equal(l, c.l) || err != api.OK {
			t.Errorf("Uncontrol(% x) = %v, %v", c.want, l, err)
		}
	}
}

// P17.4: each number at its edges, alone, ahead of a step that may be, and behind one.
func TestEdgesOfControl(t *testing.T) {
	parts := map[int]bool{0: true, 1: true, api.MaxWindow: true, -1: false, api.MaxWindow + 1: false, api.MaxImage: false, math.MaxInt: false, math.MinInt: false, math.MinInt + 1: false}
	seeks := map[int]bool{0: true, 1: true, -1: true, api.MaxWindow + 1: true, api.MaxImage: true, -api.MaxImage: true, api.MaxImage + 1: false, -api.MaxImage - 1: false, math.MaxInt: false, math.MinInt: false, math.MinInt + 1: false}
	hold := func(s api.Step, may bool) {
		t.Helper()
		for _, l := range [][]api.Step{{s}, {s, {Add: 1}}, {{Copy: 1, Seek: 7}, s}} {
			holdControl(t, l...)
			if b, err := cutter.Control(l...); may != (err == api.OK) || !may && (err != api.ErrCutWindow || len(b) != 0) {
				t.Errorf("Control(%v) = % x, %v", l, b, err)
			}
		}
	}
	for v, may := range parts {
		hold(api.Step{Add: v}, may)
		hold(api.Step{Copy: v}, may)
		hold(api.Step{Add: v, Copy: v, Seek: 3}, may)
	}
	for v, may := range seeks {
		hold(api.Step{Seek: v}, may)
		hold(api.Step{Add: 1, Copy: 1, Seek: v}, may)
	}
}

// P17.4: numbers at their edges as bytes, at each place of a step; what is behind is not looked at.
func TestEdgesOfUncontrol(t *testing.T) {
	row := func(place int, v uint64) []byte {
		l := []uint64{5, 6, 7, 8, 9, 10}
		l[place] = v
		return num.Encode(l...)
	}
	for place := range 6 {
		most := uint64(api.MaxWindow)
		if place%3 == 2 {
			most = 2 * api.MaxImage // that of MaxImage; -MaxImage has one less
		}
		for _, v := range []uint64{0, 1, most - 1, most, most + 1, most + 2, 2*most + 1, 1 << 31, 1 << 32, 1<<63 - 1, 1 << 63, 1<<64 - 1} {
			b := row(place, v)
			holdUncontrol(t, b)
			l, err := cutter.Uncontrol(b)
			if v <= most && (err != api.OK || len(l) != 2) || v > most && (err != api.ErrCutWindow || len(l) != 0) {
				t.Errorf("%d at %d: %v, %v", v, place, l, err)
			}
			for n := range b {
				holdUncontrol(t, b[:n])
			}
		}
	}
}

// P17.4: which error is told: the first wrong number's, whatever comes behind it.
func TestFirstWrongNumber(t *testing.T) {
	long := bytes.Repeat([]byte{0xff}, 10) // ErrNumLong
	form := []byte{0x81, 0}
	open := []byte{0x81}
	great := num.Encode(2*api.MaxImage + 1)
	for _, c := range []struct {
		name string
		b    []byte
		want api.Errno
	}{
		{"no bytes", nil, api.OK},
		{"within the first number", open, api.ErrNumShort},
		{"behind the first number", []byte{1}, api.ErrNumShort},
		{"within the second number", slices.Concat([]byte{1}, open), api.ErrNumShort},
		{"behind the second number", []byte{1, 2}, api.ErrNumShort},
		{"within the third number", slices.Concat([]byte{1, 2}, open), api.ErrNumShort},
		{"behind the third number", []byte{1, 2, 3}, api.OK},
		{"within the fourth number", slices.Concat([]byte{1, 2, 3}, open), api.ErrNumShort},
		{"behind the fourth number", []byte{1, 2, 3, 4}, api.ErrNumShort},
		{"behind the fifth number", []byte{1, 2, 3, 4, 5}, api.ErrNumShort},
		{"a longer form", form, api.ErrNumForm},
		{"a longer form of 0 at a step's end", []byte{1, 2, 0x80, 0}, api.ErrNumForm},
		{"a longer form in a second step", slices.Concat([]byte{1, 2, 3}, form), api.ErrNumForm},
		{"ten bytes", long, api.ErrNumLong},
		{"ten bytes behind a step and a number", slices.Concat([]byte{1, 2, 3, 4}, long), api.ErrNumLong},
		{"too great ahead of the end", great, api.ErrCutWindow},
		{"too great ahead of a longer form", slices.Concat(great, form), api.ErrCutWindow},
		{"too great ahead of ten bytes", slices.Concat([]byte{1}, great, long), api.ErrCutWindow},
		{"too great ahead of one that has not ended", slices.Concat([]byte{1, 2}, great, open), api.ErrCutWindow},
		{"too great behind a longer form", slices.Concat(form, great), api.ErrNumForm},
		{"too great behind ten bytes", slices.Concat(long, great), api.ErrNumLong},
		{"too great, and not ended", great[:len(great)-1], api.ErrNumShort},
		{"a great one of ten bytes", slices.Concat(bytes.Repeat([]byte{0xff}, 9), []byte{1}), api.ErrCutWindow},
		{"noughts in groups", slices.Concat(bytes.Repeat([]byte{0x80}, 9), []byte{1}), api.ErrCutWindow},
		{"noughts in groups, and a last one", slices.Concat(bytes.Repeat([]byte{0x80}, 9), []byte{0}), api.ErrNumForm},
	} {
		holdUncontrol(t, c.b)
		if l, err := cutter.Uncontrol(c.b); err != c.want || err != api.OK && len(l) != 0 {
			t.Errorf("%s: %v, %v", c.name, l, err)
		}
	}
}

// P17.4, P17.8: of all rows of few bytes.
func TestUncontrolOfAll(t *testing.T) {
	of := func(n int, alphabet ...byte) {
		rows := [][]byte{nil}
		for range n {
			var next [][]byte
			for _, b := range rows {
				holdUncontrol(t, b)
				for _, v := range alphabet {
					next = append(next, append(slices.Clone(b), v))
				}
			}
			rows = next
		}
		for _, b := range rows {
			holdUncontrol(t, b)
		}
	}
	of(9, 0, 1, 0x80)
	of(6, 0, 1, 4, 0x10, 0x7f, 0x80, 0x81)
	of(10, 0x80, 0x10)
	all := make([]byte, 256)
	for i := range all {
		all[i] = byte(i)
	}
	of(2, all...)
}

// P17.4, P17.8: of all short rows of steps, of drawn ones, and of their bytes with one that is otherwise.
func TestControlOfDrawn(t *testing.T) {
	for _, l := range rowsOf(2, box(-1, 2, 2, -2, 2)) {
		holdControl(t, l...)
	}
	r := rolls(7)
	number := func(most int) int { return r.below(most+1) >> r.below(25) }
	for range 20000 {
		var l []api.Step
		for range r.below(6) {
			l = append(l, api.Step{Add: number(api.MaxWindow), Copy: number(api.MaxWindow), Seek: number(api.MaxImage) - number(api.MaxImage)})
		}
		holdControl(t, l...)
		b, err := cutter.Control(l...)
		if err != api.OK {
			t.Fatalf("Control(%v): %v", l, err)
		}
		holdUncontrol(t, b)
		if len(b) == 0 {
			continue
		}
		at := r.below(len(b))
		holdUncontrol(t, b[:at])
		holdUncontrol(t, slices.Delete(slices.Clone(b), at, at+1))
		holdUncontrol(t, slices.Insert(slices.Clone(b), at, byte(r.below(256))))
		b[at] ^= 1 << r.below(8)
		holdUncontrol(t, b)
		holdUncontrol(t, r.data(r.below(20)))
	}
}

// P17.5: at the edges.
func TestMost(t *testing.T) {
	for n, may := range sizesOf() {
		want := 0
		if may {
			want = 6 * n
		}
		if got := cutter.Most(n); got != want {
			t.Errorf("Most(%d) = %d, not %d", n, got, want)
		}
	}
	if cutter.Most(64) != 384 || cutter.Most(63) != 0 || cutter.Most(api.MaxWindow) != 393216 || cutter.Most(api.MaxWindow+1) != 0 {
		t.Error("Most")
	}
}

// farSteps: n steps of one byte each, the byte added or copied, which go to and fro between the ends of the largest old image; the last one leads nowhere.
func farSteps(n int, one api.Step) []api.Step {
	out := slices.Repeat([]api.Step{one}, n)
	for i := range out[:n-1] {
		out[i].Seek = api.MaxImage - 2
		if i%2 == 1 {
			out[i].Seek = -api.MaxImage + 2 - 2*one.Add
		}
	}
	return out
}

// P17.5: windows that come as near to it as can be: of single bytes, each far from the one ahead. The last Seek is 0: so three bytes are left.
func TestNearMost(t *testing.T) {
	r := rolls(16)
	for _, n := range []int{api.MinWindow, 100, api.MaxWindow} {
		for _, one := range []api.Step{{Add: 1}, {Copy: 1}} {
			w := api.Window{Edit: r.full(farSteps(n, one))}
			if err := cutter.Check(w, api.MaxImage, n); err != api.OK {
				t.Fatalf("%d of %v: %v", n, one, err)
			}
			if b, err := cutter.Control(w.Edit.Steps...); len(b) != cutter.Most(n)-3 || err != api.OK {
				t.Errorf("%d of %v: %d bytes, %v", n, one, len(b), err)
			}
		}
	}
}

// P17.5: no window that may be has more: of drawn ones, over the largest old image.
func TestNoMoreThanMost(t *testing.T) {
	r := rolls(8)
	for range 2000 {
		n := 64 + r.below(300)
		w := r.window(api.MaxImage, 1+r.below(n), 1+r.below(1+r.below(200)))
		if b, err := cutter.Control(w.Edit.Steps...); len(b) > cutter.Most(n) || err != api.OK {
			t.Fatalf("%v: %d bytes, %v", w, len(b), err)
		}
	}
}
