package parse_test

import (
	"bytes"
	"math"
	"slices"
	"testing"

	"sapper/api"
	"sapper/frame"
	"sapper/parse"
)

// P19.1: one that waits for a patch's first byte: nothing was taken, made or told.
func TestNew(t *testing.T) {
	p := parse.New()
	if p == nil {
		t.Fatal("none was made")
	}
	if h, told := p.Head(); h != (api.Head{}) || told {
		t.Error(h, told)
	}
	if p.Taken() != 0 || p.Made() != 0 || p.Done() || p.End() != api.ErrParseEnd {
		t.Error(p.Taken(), p.Made(), p.Done(), p.End())
	}
	if told, n, err := p.Step([]byte("S")); !same(told, api.Event{}) || n != 1 || err != api.OK {
		t.Error(told, n, err)
	}
	// Another one waits for its first byte, whatever this one has taken.
	if told, n, err := parse.New().Step([]byte("A")); !same(told, api.Event{}) || n != 0 || err != api.ErrParseForm {
		t.Error(told, n, err)
	}
}

// The chapter's examples, in order.
func TestExamples(t *testing.T) {
	b, err := frame.Encode(api.Head{Window: 64, Look: 100}, options(100))
	if err != api.OK || len(b) != 25 {
		t.Fatal(b, err)
	}
	p := parse.New()
	for i := range b {
		want := api.Event{}
		switch i {
		case 20:
			want = api.Event{Kind: api.EventHead, Head: api.Head{Window: 64, Look: 100}}
		case 24:
			want = api.Event{Kind: api.EventEnd}
		}
		if told, n, err := p.Step(b[i : i+1]); !same(told, want) || n != 1 || err != api.OK {
			t.Errorf("byte %d: %v, %d, %v", i, told, n, err)
		}
	}
	if told, n, err := p.Step([]byte{1, 2, 3}); !p.Done() || !same(told, api.Event{}) || n != 0 || err != api.OK {
		t.Error(p.Done(), told, n, err)
	}
	p = parse.New()
	for _, v := range []string{"X", "S", "", "SAPR\x01"} {
		if told, n, err := p.Step([]byte(v)); !same(told, api.Event{}) || n != 0 || err != api.ErrParseForm {
			t.Errorf("%q: %v, %d, %v", v, told, n, err)
		}
	}
	for at := 17; at < 21; at++ {
		bad := slices.Clone(b)
		bad[at] ^= 4
		expectWrong(t, "the header's sum", bad, 20, api.ErrParseSum)
	}
	p = parse.New()
	for i := range b {
		if err := p.End(); err != api.ErrParseEnd {
			t.Errorf("ahead of byte %d: %v", i, err)
		}
		if _, n, err := p.Step(b[i : i+1]); n != 1 || err != api.OK {
			t.Errorf("byte %d: %d, %v", i, n, err)
		}
	}
	if err := p.End(); err != api.OK {
		t.Error(err)
	}
}

// P19.2: what is told of the base when all that is left is handed in at each Step, written out.
func TestWhole(t *testing.T) {
	b := basePatch()
	p := parse.New()
	for _, m := range baseMoments() {
		told, n, err := p.Step(b[m.first:])
		if !same(told, m.told) || n != m.at-m.first || err != api.OK {
			t.Fatalf("behind %d bytes: %v, %d, %v, not %v, %d", m.first, told, n, err, m.told, m.at-m.first)
		}
	}
	if told, n, err := p.Step(b); !same(told, api.Event{}) || n != 0 || err != api.OK {
		t.Error(told, n, err)
	}
}

// P19.2, P19.3, P19.4: what each call answers ahead of, at and behind each event, byte by byte, written out; a Step of no bytes at each place changes nothing.
func TestByteByByte(t *testing.T) {
	b := basePatch()
	h, _ := base()
	p := parse.New()
	made, headTold := 0, false
	hold := func(at int) {
		t.Helper()
		for _, none := range [][]byte{nil, {}} {
			if told, n, err := p.Step(none); !same(told, api.Event{}) || n != 0 || err != api.OK {
				t.Fatalf("behind %d bytes, a Step of none: %v, %d, %v", at, told, n, err)
			}
		}
		want, end := api.Head{}, api.ErrParseEnd
		if headTold {
			want = h
		}
		if at == 46 {
			end = api.OK
		}
		if got, told := p.Head(); got != want || told != headTold {
			t.Fatalf("behind %d bytes: Head %v, %v", at, got, told)
		}
		if p.Taken() != at || p.Made() != made || p.Done() != (at == 46) || p.End() != end || p.Room() != 64 {
			t.Fatalf("behind %d bytes: Taken %d, Made %d, Done %v, End %v, Room %d", at, p.Taken(), p.Made(), p.Done(), p.End(), p.Room())
		}
	}
	for i := range b {
		hold(i)
		told, n, err := p.Step(b[i : i+1])
		want := api.Event{}
		for _, m := range baseMoments() {
			switch {
			case m.told.Kind == api.EventBytes && i >= m.first && i < m.at:
				want = api.Event{Kind: api.EventBytes, Stream: m.told.Stream, Bytes: b[i : i+1]}
			case m.at == i+1:
				want, made, headTold = m.told, m.made, true
			}
		}
		if !same(told, want) || n != 1 || err != api.OK {
			t.Fatalf("byte %d: %v, %d, %v, not %v", i, told, n, err, want)
		}
	}
	hold(46)
	hold(46)
	if told, n, err := p.Step([]byte("SAPR")); !same(told, api.Event{}) || n != 0 || err != api.OK {
		t.Error(told, n, err)
	}
	hold(46)
}

// P19.2: short patches, whole, byte by byte, cut in two and in three at each place; with more behind them, of which nothing is taken.
func TestCuts(t *testing.T) {
	for _, b := range patches() {
		expectPatch(t, "a patch", b)
		for cut := range len(b) + 1 {
			x := pairOf(t, b)
			for _, size := range []int{cut, len(b)} {
				for left := min(size, x.left()); left > 0; { // a piece is handed in until all of it is taken
					_, n, _ := x.step(left)
					left -= n
				}
			}
			if !x.p.Done() {
				t.Errorf("cut at %d: %v", cut, x.p.End())
			}
			for other := cut; len(b) < 60 && other <= len(b); other++ {
				x := pairOf(t, b)
				for _, to := range []int{cut, other, len(b)} {
					for x.m.taken < to {
						x.step(to - x.m.taken)
					}
				}
			}
		}
		for _, more := range []string{"\x00", "S", "SAPR\x01", string(b)} {
			x := pairOf(t, append(slices.Clone(b), more...))
			x.run(func() int { return len(b) + len(more) })
			if !x.p.Done() || x.p.Taken() != len(b) || x.p.End() != api.OK {
				t.Errorf("%q behind it: %v, %d, %v", more, x.p.Done(), x.p.Taken(), x.p.End())
			}
		}
	}
}

// P19.2: a stream that is cut at each place; what is told are the bytes that are there, up to its end and not beyond.
func TestCutStreams(t *testing.T) {
	b := basePatch()
	for _, m := range baseMoments() {
		if m.told.Kind != api.EventBytes {
			continue
		}
		for from := m.first; from < m.at; from++ {
			for to := from + 1; to <= len(b); to++ {
				p := fed(t, b[:from])
				want := b[from:min(to, m.at)]
				told, n, err := p.Step(b[from:to])
				if !same(told, api.Event{Kind: api.EventBytes, Stream: m.told.Stream, Bytes: want}) || n != len(want) || err != api.OK {
					t.Fatalf("bytes %d to %d: %v, %d, %v", from, to, told, n, err)
				}
			}
		}
	}
}

// fed: a parser that has taken these bytes, of which none may be wrong.
func fed(t *testing.T, b []byte) *parse.Parser {
	t.Helper()
	p := parse.New()
	for len(b) > 0 {
		_, n, err := p.Step(b)
		if err != api.OK || n == 0 {
			t.Fatalf("% x: %d, %v", b, n, err)
		}
		b = b[n:]
	}
	return p
}

// P19.2: each of a window's streams of no bytes, of one, of many, and of the most that its raw size bears.
func TestStreamSizes(t *testing.T) {
	h, _ := base()
	h.New = 9
	counts := []int{0, 1, 2, 64, 68, 100}
	for _, control := range counts[1:] {
		for _, diff := range counts {
			for _, extra := range counts {
				raw := [3]int{9, 4, 5}
				switch {
				case diff == 0 && extra == 0:
					continue // one of them has bytes, since the window has
				case diff == 0:
					raw = [3]int{9, 0, 9}
				case extra == 0:
					raw = [3]int{9, 9, 0}
				}
				l := [3]string{string(bytes.Repeat([]byte("c"), control)), string(bytes.Repeat([]byte("d"), min(diff, 4*raw[1]+64))), string(bytes.Repeat([]byte("e"), min(extra, 4*raw[2]+64)))}
				b := patchOf(headBytes(h), partOf(1, raw, l[:]...))
				expectPatch(t, "streams", b)
				got, err := parse.All(b)
				var want []api.Event
				for k, s := range l {
					if s != "" {
						want = append(want, api.Event{Kind: api.EventBytes, Stream: k, Bytes: []byte(s)})
					}
				}
				if err != api.OK || len(got) != len(want)+3 || !sameAll(got[2:len(got)-1], want) {
					t.Errorf("streams of %d, %d, %d: %v, %v", control, diff, extra, got, err)
				}
			}
		}
	}
}

// P19.2: the longest streams, which come whole, and a byte short of it.
func TestLongStreams(t *testing.T) {
	h := api.Head{Old: 1 << 24, New: 65536, Window: 65536, Look: 32768}
	r := rolls(3)
	for _, raw := range [][3]int{{393216, 65536, 0}, {393216, 0, 65536}, {393216, 1, 65535}} {
		var streams [3]string
		for k, n := range raw {
			if n > 0 {
				streams[k] = string(r.data(4*n + 64))
			}
		}
		b := patchOf(headBytes(h), partOf(1<<24, raw, streams[:]...))
		at := len(headBytes(h)) + len(shortest(1<<24, raw[0], raw[1], raw[2], len(streams[0]), len(streams[1]), len(streams[2])))
		for k, s := range streams {
			if s == "" {
				continue
			}
			p := fed(t, b[:at])
			if told, n, err := p.Step(b[at:]); told.Stream != k || string(told.Bytes) != s || n != len(s) || err != api.OK {
				t.Errorf("stream %d: %d bytes of stream %d, %d, %v", k, len(told.Bytes), told.Stream, n, err)
			}
			p = fed(t, b[:at])
			if told, n, err := p.Step(b[at : at+len(s)-1]); string(told.Bytes) != s[:len(s)-1] || n != len(s)-1 || err != api.OK {
				t.Errorf("stream %d, a byte short: %d bytes, %d, %v", k, len(told.Bytes), n, err)
			}
			if told, n, err := p.Step(b[at+len(s)-1:]); told.Stream != k || string(told.Bytes) != s[len(s)-1:] || n != 1 || err != api.OK {
				t.Errorf("stream %d, its last byte: %d bytes of stream %d, %d, %v", k, len(told.Bytes), told.Stream, n, err)
			}
			at += len(s)
		}
		if at != len(b)-4 {
			t.Fatal(at, len(b))
		}
	}
}

// P19.2: patches of no window, of one, of several, and the last one of fewer bytes, with sizes at each edge.
func TestWindows(t *testing.T) {
	for _, window := range []int{64, 65, 127, 128, 1000, 65536} {
		for _, size := range []int{0, 1, window - 1, window, window + 1, 2 * window, 2*window + 1, 3*window - 1, 3 * window} {
			h := api.Head{Old: 7, New: size, OldSum: 1, NewSum: 2, Window: window, Look: 9}
			var l []part
			for i, n := range sizesOf(h) {
				if i%2 == 0 {
					l = append(l, partOf(i, [3]int{1, n, 0}, "a", "b", ""))
				} else {
					l = append(l, partOf(i, [3]int{1, 0, n}, "a", "", "b"))
				}
			}
			b := patchOf(headBytes(h), l...)
			expectPatch(t, "windows", b)
			if got, err := parse.All(b); err != api.OK || len(got) != 2+3*len(l) {
				t.Errorf("%d bytes in windows of %d: %d events, %v", size, window, len(got), err)
			}
			// A window too few and too many: the sum is looked for in its place.
			if len(l) > 0 {
				few := patchOf(headBytes(h), l[:len(l)-1]...)
				if _, err := parse.All(few); err == api.OK {
					t.Errorf("%d bytes in windows of %d, one too few", size, window)
				}
			}
			many := patchOf(headBytes(h), append(l, partOf(0, [3]int{1, 0, 1}, "a", "", "b"))...)
			if _, err := parse.All(many); err != api.ErrParseSum {
				t.Errorf("%d bytes in windows of %d, one too many: %v", size, window, err)
			}
		}
	}
}

// P19.2, P19.3, P19.5: of drawn patches, of bent ones with right sums nevertheless, and of drawn bytes.
func TestDrawn(t *testing.T) {
	r := rolls(1)
	count := map[api.Errno]int{}
	for range 1500 {
		h, l := r.patch()
		if holdSteps(t, &r, sealed(headBytes(h), slices.Concat(l...))) != api.OK {
			t.Fatal("a patch was refused")
		}
		for range 4 {
			parts, head := slices.Clone(l), headBytes(h)
			if len(parts) > 0 {
				k := r.below(len(parts))
				parts[k] = r.bent(parts[k])
			}
			if len(parts) == 0 || r.below(4) == 0 {
				head = sealed(r.bent(head[:len(head)-4]))
			}
			count[holdSteps(t, &r, sealed(head, slices.Concat(parts...)))]++
		}
		count[holdSteps(t, &r, r.bent(sealed(headBytes(h), slices.Concat(l...))))]++
		count[holdSteps(t, &r, r.data(r.below(60)))]++
		count[holdSteps(t, &r, append([]byte("SAPR\x01"), r.data(r.below(60))...))]++
		count[holdSteps(t, &r, sealed(headBytes(h), r.data(r.below(60))))]++
	}
	for _, err := range []api.Errno{api.OK, api.ErrParseForm, api.ErrParseSum, api.ErrParseEnd} {
		if count[err] < 300 {
			t.Errorf("%v", count)
		}
	}
}

// P19.2, R6: drawn numbers, at all ends, in the places of a header's and of a frame's.
func TestDrawnNumbers(t *testing.T) {
	r := rolls(2)
	h, l := base()
	ends := []uint64{0, 1, 2, 3, 5, 62, 63, 64, 65, 66, 127, 128, 384, 385, 1 << 14, 32768, 32769, 65536, 65537, 1 << 24, 1<<24 + 1, 1 << 31, 1 << 32, 1<<32 + 64, 1 << 62, 1<<63 - 1, 1 << 63, 1<<63 + 64, math.MaxUint64 - 63, math.MaxUint64}
	count := map[api.Errno]int{}
	for range 8000 {
		head, parts := topOf(h), l
		for range 1 + r.below(2) {
			v := ends[r.below(len(ends))]
			if k := r.below(11); k < 4 {
				head.numbers[k] = numBytes(v)
			} else {
				parts[r.below(2)].numbers[k-4] = numBytes(v)
			}
		}
		count[holdSteps(t, &r, patchOf(head.bytes(), parts[:]...))]++
	}
	if count[api.OK] < 100 || count[api.ErrParseForm] < 1000 {
		t.Errorf("%v", count)
	}
}
