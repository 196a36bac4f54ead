package parse_test

import (
	"math"
	"slices"
	"testing"

	"sapper/api"
	"sapper/crc"
	"sapper/num"
	"sapper/parse"
)

// numBytes: a number's shortest form, whatever it is.
func numBytes(v uint64) []byte { return num.Encode(v) }

// P19.2: each byte of the magic that is another one, all 255 of them.
func TestMagic(t *testing.T) {
	b := basePatch()
	for at := range 5 {
		for mask := 1; mask < 256; mask++ {
			bad := slices.Clone(b)
			bad[at] ^= byte(mask)
			if got, err := wrongAt(t, bad); got != at || err != api.ErrParseForm {
				t.Errorf("byte %d: byte %d is wrong, %v", at, got, err)
			}
		}
		bad := slices.Clone(b)
		bad[at] ^= 32
		expectWrong(t, "the magic", bad, at, api.ErrParseForm)
	}
}

// place: where a number stands in a patch of the base, and how one with others in its place is made.
type place struct {
	name  string
	at    int // its first byte
	value int
	head  bool
	with  func(form []byte) []byte
}

// places: of all numbers of the base.
func places() []place {
	h, l := base()
	var out []place
	at := 5
	for k, v := range []int{h.Old, h.New, h.Window, h.Look} {
		out = append(out, place{"the header's number", at, v, true, func(form []byte) []byte {
			top := topOf(h)
			top.numbers[k] = form
			return patchOf(top.bytes(), l[:]...)
		}})
		at += len(shortest(v))
	}
	at += 12
	for i, p := range l {
		for k, form := range p.numbers {
			v, _, _ := number(form, 0)
			out = append(out, place{"the frame's number", at, int(v.Int64()), false, func(form []byte) []byte {
				bent := l
				bent[i].numbers[k] = form
				return patchOf(headBytes(h), bent[:]...)
			}})
			at += len(form)
		}
		for _, s := range p.streams {
			at += len(s)
		}
	}
	return out
}

// P19.2: each number in a longer form: wrong at the byte 0; and too long: wrong at the tenth byte.
func TestFormsOfNumbers(t *testing.T) {
	l := places()
	if len(l) != 18 {
		t.Fatal(len(l))
	}
	for _, p := range l {
		expectPatch(t, p.name, p.with(shortest(p.value)))
		longer := shortest(p.value)
		longer[len(longer)-1] |= 128
		expectWrong(t, p.name+" in a longer form", p.with(append(slices.Clone(longer), 0)), p.at+len(longer), api.ErrParseForm)
		expectWrong(t, p.name+" in a form of three bytes more", p.with(append(slices.Clone(longer), 128, 128, 0)), p.at+len(longer)+2, api.ErrParseForm)
		expectWrong(t, p.name+" 0 in a longer form", p.with([]byte{128, 0}), p.at+1, api.ErrParseForm)
		for _, last := range []byte{2, 127, 128, 129, 255} {
			expectWrong(t, p.name+" too long", p.with(append(slices.Repeat([]byte{128}, 9), last)), p.at+9, api.ErrParseForm)
			expectWrong(t, p.name+" too long", p.with(append(slices.Repeat([]byte{255}, 9), last)), p.at+9, api.ErrParseForm)
		}
		expectWrong(t, p.name+" of ten bytes, the last one 0", p.with(append(slices.Repeat([]byte{255}, 9), 0)), p.at+9, api.ErrParseForm)
	}
}

// P19.2, R6: each number too great for what it may be, up to the greatest of the form: of a header, wrong at its sum's last byte; of a frame, at the last byte of its last number.
func TestGreatNumbers(t *testing.T) {
	for i, p := range places() {
		for _, form := range great(p.value) {
			b := p.with(form)
			at := 20
			if !p.head {
				at = 27 + (i-4)/7*10 // the last byte of the frame's numbers
			}
			at += len(form) - len(shortest(p.value))
			expectWrong(t, p.name+" too great", b, at, api.ErrParseForm)
			if p.head {
				bad := slices.Clone(b)
				bad[at-3] ^= 1
				expectWrong(t, p.name+" too great, and another sum", bad, at, api.ErrParseSum)
			}
		}
	}
}

// P19.2, R6: numbers whose sums and products go round to what may be.
func TestNumbersThatWouldGoRound(t *testing.T) {
	h, l := base()
	head := len(headBytes(h))
	for _, c := range []struct {
		name  string
		which map[int]uint64
	}{
		{"Diff and Extra together 2^64 more", map[int]uint64{2: 1 << 63, 3: 1<<63 + 64}},
		{"Diff and Extra together 2^64 more, otherwise cut", map[int]uint64{2: math.MaxUint64, 3: 65}},
		{"Diff and Extra together 2^64 more, the other way", map[int]uint64{2: 65, 3: math.MaxUint64}},
		{"both the greatest int", map[int]uint64{2: math.MaxInt64, 3: math.MaxInt64}},
		{"Diff and Extra -1 and 65 as ints", map[int]uint64{2: math.MaxUint64, 3: 65, 5: 1}},
		{"a control of 2^62, four times which is 0", map[int]uint64{1: 1 << 62, 4: 64}},
		{"a control of 2^62 + 1", map[int]uint64{1: 1<<62 + 1, 4: 68}},
		{"an Extra of 2^62 + 64", map[int]uint64{3: 1<<62 + 64, 6: 1}},
		{"a control's stream of 2^64 - 1", map[int]uint64{4: math.MaxUint64}},
		{"all the greatest", map[int]uint64{0: math.MaxUint64, 1: math.MaxUint64, 2: math.MaxUint64, 3: math.MaxUint64, 4: math.MaxUint64, 5: math.MaxUint64, 6: math.MaxUint64}},
		{"all the greatest int", map[int]uint64{0: math.MaxInt64, 1: math.MaxInt64, 2: math.MaxInt64, 3: math.MaxInt64, 4: math.MaxInt64, 5: math.MaxInt64, 6: math.MaxInt64}},
		{"all the least int", map[int]uint64{0: 1 << 63, 1: 1 << 63, 2: 1 << 63, 3: 1 << 63, 4: 1 << 63, 5: 1 << 63, 6: 1 << 63}},
	} {
		p := l[0]
		for k, v := range c.which {
			p.numbers[k] = num.Encode(v)
		}
		at := head + len(slices.Concat(p.numbers[:]...)) - 1
		expectWrong(t, c.name, patchOf(headBytes(h), p, l[1]), at, api.ErrParseForm)
	}
}

// P19.2: a header that may be, at each bound, and one beyond it; with the right sum and with another one.
func TestHeaders(t *testing.T) {
	for _, c := range []struct {
		h   api.Head
		may bool
	}{
		{api.Head{Old: 0, Window: 64, Look: 1}, true},
		{api.Head{Old: 1 << 24, Window: 64, Look: 1}, true},
		{api.Head{Old: 1<<24 + 1, Window: 64, Look: 1}, false},
		{api.Head{New: 1 << 24, Window: 64, Look: 1}, true},
		{api.Head{New: 1<<24 + 1, Window: 64, Look: 1}, false},
		{api.Head{Window: 63, Look: 1}, false},
		{api.Head{Window: 0, Look: 1}, false},
		{api.Head{Window: 65536, Look: 1}, true},
		{api.Head{Window: 65537, Look: 1}, false},
		{api.Head{Window: 64, Look: 0}, false},
		{api.Head{Window: 64, Look: 32768}, true},
		{api.Head{Window: 64, Look: 32769}, false},
		{api.Head{Old: 1 << 24, New: 1 << 24, OldSum: 1<<32 - 1, NewSum: 1<<32 - 1, Window: 65536, Look: 32768}, true},
	} {
		b := headBytes(c.h)
		last := len(b) - 1
		if c.may {
			told, n, err := parse.New().Step(b)
			if !same(told, api.Event{Kind: api.EventHead, Head: c.h}) || n != len(b) || err != api.OK {
				t.Errorf("%v: %v, %d, %v", c.h, told, n, err)
			}
		} else {
			expectWrong(t, "a header that may not be", sealed(b), last, api.ErrParseForm)
		}
		for at := len(b) - 4; at < len(b); at++ {
			bad := slices.Clone(b)
			bad[at] ^= 128
			expectWrong(t, "another sum", sealed(bad), last, api.ErrParseSum)
		}
	}
}

// P19.2: each byte of both sums turned, in all ways, and each byte ahead of a sum; both at the sum's last byte alone.
func TestSums(t *testing.T) {
	b := basePatch()
	for mask := 1; mask < 256; mask++ {
		for at := range b {
			last := 20
			if at >= 42 {
				last = 45
			}
			switch {
			case at >= 17 && at < 21, at >= 42, at >= 9 && at < 17: // the sums, and the images' sums
			case at == 28, at == 29, at == 30, at >= 38 && at < 42: // the streams' bytes
				last = 45
			default:
				continue
			}
			bad := slices.Clone(b)
			bad[at] ^= byte(mask)
			if got, err := wrongAt(t, bad); got != last || err != api.ErrParseSum {
				t.Fatalf("byte %d turned by %x: byte %d is wrong, %v", at, mask, got, err)
			}
		}
	}
	for at := range b {
		bad := slices.Clone(b)
		bad[at] ^= 1
		r := rolls(at)
		if holdSteps(t, &r, bad) == api.OK {
			t.Errorf("byte %d turned: a patch", at)
		}
	}
	// The sum is of all bytes, the header's too, and of none that come behind.
	h, l := base()
	windows := slices.Concat(l[0].bytes(), l[1].bytes())
	expectWrong(t, "the sum of the windows alone", slices.Concat(headBytes(h), sealed(windows)), 45, api.ErrParseSum)
	expectWrong(t, "a sum of noughts", slices.Concat(headBytes(h), windows, make([]byte, 4)), 45, api.ErrParseSum)
	turned := basePatch()
	slices.Reverse(turned[42:])
	expectWrong(t, "the sum turned about", turned, 45, api.ErrParseSum)
}

// P19.2: sums that are another one in any of their bytes together: drawn ones, and those by which the sum of all bytes with their sum comes to what it should but for one bit.
func TestNearlyRightSums(t *testing.T) {
	b := basePatch()
	expect := func(at int, sum []byte) {
		t.Helper()
		bad := slices.Concat(b[:at], sum, b[at+4:])
		if slices.Equal(bad, b) {
			return
		}
		if got, err := wrongAt(t, bad); got != at+3 || err != api.ErrParseSum {
			t.Errorf("% x in the place of % x: byte %d is wrong, %v", sum, b[at:at+4], got, err)
		}
	}
	r := rolls(11)
	for _, at := range []int{17, 42} {
		ahead := crc.Sum(b[:at])
		for bit := range 32 {
			near := crc.Tail(ahead, 0x2144df1c^1<<bit)
			expect(at, near[:])
			expect(at, four(ahead^1<<bit))
		}
		for range 2000 {
			expect(at, four(r.word()))
			expect(at, four(ahead^r.word()&r.word()))
		}
	}
}

// P19.2: sizes at each bound, and one beyond it, of a window of 64 bytes over five old ones, and of the last one, of two.
func TestSizes(t *testing.T) {
	h, l := base()
	big := func(n int) string { return string(make([]byte, n)) }
	for _, c := range []struct {
		name string
		at   int
		p    part
		may  bool
	}{
		{"Pos 0", 0, partOf(0, [3]int{3, 0, 64}, "a", "", "b"), true},
		{"Pos at Old", 0, partOf(5, [3]int{3, 0, 64}, "a", "", "b"), true},
		{"Pos beyond Old", 0, partOf(6, [3]int{3, 0, 64}, "a", "", "b"), false},
		{"no control", 0, partOf(0, [3]int{0, 0, 64}, "", "", "b"), false},
		{"no control, and a stream of it", 0, partOf(0, [3]int{0, 0, 64}, "a", "", "b"), false},
		{"a control of one byte", 0, partOf(0, [3]int{1, 0, 64}, "a", "", "b"), true},
		{"the longest control", 0, partOf(0, [3]int{384, 0, 64}, "a", "", "b"), true},
		{"one more", 0, partOf(0, [3]int{385, 0, 64}, "a", "", "b"), false},
		{"Extra one less", 0, partOf(0, [3]int{3, 0, 63}, "a", "", "b"), false},
		{"Extra one more", 0, partOf(0, [3]int{3, 0, 65}, "a", "", "b"), false},
		{"Diff alone", 0, partOf(0, [3]int{3, 64, 0}, "a", "b", ""), true},
		{"Diff one less", 0, partOf(0, [3]int{3, 63, 0}, "a", "b", ""), false},
		{"Diff one more", 0, partOf(0, [3]int{3, 65, 0}, "a", "b", ""), false},
		{"both", 0, partOf(0, [3]int{3, 31, 33}, "a", "b", "c"), true},
		{"both, one more", 0, partOf(0, [3]int{3, 32, 33}, "a", "b", "c"), false},
		{"both, one less", 0, partOf(0, [3]int{3, 31, 32}, "a", "b", "c"), false},
		{"neither", 0, partOf(0, [3]int{3, 0, 0}, "a", "", ""), false},
		{"a stream of no Diff", 0, partOf(0, [3]int{3, 0, 64}, "a", "b", "c"), false},
		{"a stream of no Extra", 0, partOf(0, [3]int{3, 64, 0}, "a", "b", "c"), false},
		{"no stream of the control", 0, partOf(0, [3]int{3, 0, 64}, "", "", "b"), false},
		{"no stream of the Diff", 0, partOf(0, [3]int{3, 1, 63}, "a", "", "b"), false},
		{"no stream of the Extra", 0, partOf(0, [3]int{3, 1, 63}, "a", "b", ""), false},
		{"the longest stream of the control", 0, partOf(0, [3]int{384, 0, 64}, big(1600), "", "b"), true},
		{"one more", 0, partOf(0, [3]int{384, 0, 64}, big(1601), "", "b"), false},
		{"the longest stream of a control of one", 0, partOf(0, [3]int{1, 0, 64}, big(68), "", "b"), true},
		{"one more", 0, partOf(0, [3]int{1, 0, 64}, big(69), "", "b"), false},
		{"the longest stream of the Diff", 0, partOf(0, [3]int{1, 1, 63}, "a", big(68), "b"), true},
		{"one more", 0, partOf(0, [3]int{1, 1, 63}, "a", big(69), "b"), false},
		{"the longest stream of the Extra", 0, partOf(0, [3]int{1, 1, 63}, "a", "b", big(316)), true},
		{"one more", 0, partOf(0, [3]int{1, 1, 63}, "a", "b", big(317)), false},
		{"the last window", 1, partOf(5, [3]int{384, 1, 1}, big(1600), big(68), big(68)), true},
		{"the last window, its control one more", 1, partOf(5, [3]int{385, 1, 1}, "a", "b", "c"), false},
		{"the last window as the first one", 1, partOf(5, [3]int{3, 0, 64}, "a", "", "b"), false},
		{"the last window, one byte", 1, partOf(5, [3]int{3, 0, 1}, "a", "", "b"), false},
		{"the last window, three bytes", 1, partOf(5, [3]int{3, 1, 2}, "a", "b", "c"), false},
		{"the first window as the last one", 0, partOf(0, [3]int{3, 0, 2}, "a", "", "b"), false},
	} {
		parts := l
		parts[c.at] = c.p
		b := patchOf(headBytes(h), parts[:]...)
		if c.may {
			expectPatch(t, c.name, b)
			continue
		}
		at := 20 + 10*c.at + len(slices.Concat(c.p.numbers[:]...))
		expectWrong(t, c.name, b, at, api.ErrParseForm)
		b[len(b)-1] ^= 1
		expectWrong(t, c.name+", and another sum behind it", b, at, api.ErrParseForm)
		expectWrong(t, c.name+", and nothing behind it", b[:at+1], at, api.ErrParseForm)
	}
}

// P19.2: bytes that end within each part: nothing is wrong, and nothing more is told.
func TestEndedEarly(t *testing.T) {
	for _, b := range patches() {
		for n := range b {
			x := pairOf(t, b[:n])
			if err := x.run(func() int { return n }); err != api.ErrParseEnd {
				t.Errorf("the first %d bytes of %d: %v", n, len(b), err)
			}
			if x.p.Taken() != n {
				t.Errorf("the first %d bytes of %d: %d were taken", n, len(b), x.p.Taken())
			}
		}
	}
	for _, p := range places() {
		for _, form := range [][]byte{{128}, {255, 255, 255}, slices.Repeat([]byte{128}, 9)} {
			b := p.with(form)[:p.at+len(form)]
			x := pairOf(t, b)
			if err := x.run(func() int { return len(b) }); err != api.ErrParseEnd || x.p.Taken() != len(b) {
				t.Errorf("%s ends within: %v, %d", p.name, err, x.p.Taken())
			}
		}
	}
}

// wrongPatches: patches of the base with a wrong byte of each kind, which byte it is, and its error.
func wrongPatches() []struct {
	b   []byte
	at  int
	err api.Errno
} {
	h, l := base()
	b := basePatch()
	turned := func(at int) []byte {
		out := slices.Clone(b)
		out[at] ^= 64
		return out
	}
	none := h
	none.Look = 0
	long := l
	long[1].numbers[6] = []byte{128, 0}
	bad := l
	bad[1].numbers[2] = []byte{3}
	return []struct {
		b   []byte
		at  int
		err api.Errno
	}{
		{turned(0), 0, api.ErrParseForm},
		{turned(4), 4, api.ErrParseForm},
		{slices.Concat(b[:5], []byte{133, 0}, b[6:]), 6, api.ErrParseForm},
		{turned(20), 20, api.ErrParseSum},
		{patchOf(headBytes(none), l[:]...), 20, api.ErrParseForm},
		{patchOf(headBytes(h), long[:]...), 38, api.ErrParseForm},
		{patchOf(headBytes(h), bad[:]...), 37, api.ErrParseForm},
		{turned(42), 45, api.ErrParseSum},
		{turned(30), 45, api.ErrParseSum},
	}
}

// P19.2, P19.3: the call of a wrong byte, from each place ahead of it on, answers no event, 0 and the error, and so does each Step from there on; Taken, Made and Head tell what they told ahead of that call.
func TestWrongCall(t *testing.T) {
	for _, c := range wrongPatches() {
		for from := range c.at + 1 {
			p := fed(t, c.b[:from])
			taken, made := p.Taken(), p.Made()
			h, told := p.Head()
			var event api.Event
			var n int
			var err api.Errno
			for at := from; err == api.OK; at += n { // events ahead of the wrong byte are told first
				taken, made = p.Taken(), p.Made()
				h, told = p.Head()
				event, n, err = p.Step(c.b[at:])
			}
			for range 2 {
				if !same(event, api.Event{}) || n != 0 || err != c.err {
					t.Fatalf("byte %d, from %d on: %v, %d, %v, not %v", c.at, from, event, n, err, c.err)
				}
				if got, was := p.Head(); got != h || was != told || p.Taken() != taken || p.Made() != made || taken > c.at {
					t.Fatalf("byte %d, from %d on: Head %v, %v, Taken %d, Made %d, not %v, %v, %d, %d", c.at, from, got, was, p.Taken(), p.Made(), h, told, taken, made)
				}
				if p.Done() || p.End() != c.err || p.Room() != 64 {
					t.Fatalf("byte %d, from %d on: Done %v, End %v, Room %d", c.at, from, p.Done(), p.End(), p.Room())
				}
				event, n, err = p.Step(basePatch())
			}
			for _, more := range [][]byte{nil, {}, {0}, c.b[c.at:], basePatch()[c.at:], basePatch()[taken:]} {
				if event, n, err := p.Step(more); !same(event, api.Event{}) || n != 0 || err != c.err {
					t.Fatalf("byte %d, and % x behind it: %v, %d, %v", c.at, more, event, n, err)
				}
			}
		}
	}
}

// P19.2: a right byte in the place of a wrong one goes on, though the call of the wrong one was tried on another parser.
func TestWrongCallAlone(t *testing.T) {
	b := basePatch()
	for _, c := range wrongPatches() {
		p, other := fed(t, c.b[:c.at]), fed(t, b[:c.at])
		if _, _, err := p.Step(c.b[c.at : c.at+1]); err != c.err {
			t.Fatal(err)
		}
		if c.at >= 42 || len(c.b) != len(b) {
			continue
		}
		if _, n, err := other.Step(b[c.at:]); n == 0 || err != api.OK {
			t.Errorf("byte %d: %d, %v", c.at, n, err)
		}
	}
}
