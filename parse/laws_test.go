package parse_test

import (
	"bytes"
	"slices"
	"testing"

	"sapper/api"
	"sapper/cutter"
	"sapper/frame"
	"sapper/parse"
	"sapper/swell"
)

// spoken: one thing that was told, and how many bytes were taken with it.
type spoken struct {
	api.Event
	at int
}

// heard: what is told of pieces, each of which is handed in until all of it is taken; the error, and the parser.
func heard(t *testing.T, pieces [][]byte) ([]spoken, api.Errno, *parse.Parser) {
	t.Helper()
	p := parse.New()
	var out []spoken
	for _, piece := range pieces {
		for first := true; first || len(piece) > 0; first = false {
			told, n, err := p.Step(piece)
			if err != api.OK {
				return out, err, p
			}
			if told.Kind != api.EventNone {
				out = append(out, spoken{told, p.Taken()})
			}
			if p.Done() {
				return out, api.OK, p
			}
			if told.Kind == api.EventNone && n < len(piece) {
				t.Fatalf("of %d bytes %d were taken, and nothing was told", len(piece), n)
			}
			piece = piece[n:]
		}
	}
	return out, api.OK, p
}

// joined: the same, with the bytes of each stream in one.
func joined(l []spoken) []spoken {
	var out []spoken
	for _, s := range l {
		if n := len(out) - 1; n >= 0 && s.Kind == api.EventBytes && out[n].Kind == api.EventBytes && out[n].Stream == s.Stream {
			out[n].Bytes = slices.Concat(out[n].Bytes, s.Bytes)
			out[n].at = s.at
			continue
		}
		out = append(out, s)
	}
	return out
}

// sameSpoken: the same, told at the same bytes?
func sameSpoken(a, b []spoken) bool {
	return slices.EqualFunc(a, b, func(x, y spoken) bool { return same(x.Event, y.Event) && x.at == y.at })
}

// pieces: bytes cut at drawn places, with empty ones among them.
func (r *rolls) pieces(b []byte) [][]byte {
	most := r.of(1, 2, 5, 20, 100)
	var out [][]byte
	for len(b) > 0 {
		for r.below(3) == 0 {
			out = append(out, r.none())
		}
		n := min(1+r.below(most), len(b))
		out, b = append(out, b[:n]), b[n:]
	}
	return append(out, r.none())
}

// none: an empty piece, of either kind.
func (r *rolls) none() []byte {
	if r.below(2) == 0 {
		return nil
	}
	return []byte{}
}

// P19.6: in whatever pieces: the same is told at the same bytes, streams are cut at the pieces' ends alone; the same error.
func TestPieces(t *testing.T) {
	r := rolls(4)
	count := map[api.Errno]int{}
	for range 600 {
		h, l := r.patch()
		b := sealed(headBytes(h), slices.Concat(l...))
		switch r.below(4) {
		case 0:
			b = r.bent(b)
		case 1:
			if len(l) > 0 {
				k := r.below(len(l))
				l[k] = r.bent(l[k])
				b = sealed(headBytes(h), slices.Concat(l...))
			}
		}
		want, wantErr, whole := heard(t, [][]byte{b})
		end := whole.End()
		for range 8 {
			cut := r.pieces(b)
			got, err, p := heard(t, cut)
			if !sameSpoken(joined(got), joined(want)) || err != wantErr || p.End() != end {
				t.Fatalf("% x in pieces %v: %v, %v, not %v, %v", b, cut, got, err, want, wantErr)
			}
			holdCuts(t, b, cut, got)
		}
		count[end]++
	}
	for _, err := range []api.Errno{api.OK, api.ErrParseForm, api.ErrParseSum} {
		if count[err] < 30 {
			t.Errorf("%v", count)
		}
	}
}

// holdCuts: a stream's bytes end at its own end or at a piece's, and nowhere else.
func holdCuts(t *testing.T, b []byte, cut [][]byte, l []spoken) {
	t.Helper()
	ends, at := map[int]int{}, 0
	for _, piece := range cut {
		at += len(piece)
		ends[at]++
	}
	layout := layoutOf(b)
	for _, s := range l {
		if s.Kind != api.EventBytes {
			continue
		}
		stream, _ := layout.streamAt(s.at - 1)
		if ends[s.at] == 0 && s.at != stream.to {
			t.Fatalf("% x in pieces %v: bytes are told up to %d", b, cut, s.at)
		}
		from := s.at - len(s.Bytes)
		if ends[from] == 0 && from != stream.from {
			t.Fatalf("% x in pieces %v: bytes are told from %d on", b, cut, from)
		}
	}
}

// P19.6: the wrong byte is the same one, however the bytes ahead of it were cut: all ahead of it are taken if they come by themselves.
func TestSameWrongByte(t *testing.T) {
	r := rolls(5)
	for _, c := range wrongPatches() {
		if got, err := wrongAt(t, c.b); got != c.at || err != c.err {
			t.Fatalf("byte %d, %v, not %d, %v", got, err, c.at, c.err)
		}
		for range 100 {
			ahead := r.pieces(c.b[:c.at])
			_, err, p := heard(t, ahead)
			if err != api.OK || p.Taken() != c.at || p.Done() {
				t.Fatalf("the bytes ahead of %d in pieces %v: %v, %d", c.at, ahead, err, p.Taken())
			}
			if _, n, err := p.Step(c.b[c.at : c.at+1]); n != 0 || err != c.err {
				t.Fatalf("byte %d: %d, %v", c.at, n, err)
			}
		}
	}
}

// gathered: what All has told, as a header and its windows' sizes and streams.
func gathered(l []api.Event) (h api.Head, sizes []api.Sizes, streams [][3][]byte) {
	for _, e := range l {
		switch e.Kind {
		case api.EventHead:
			h = e.Head
		case api.EventWindow:
			sizes, streams = append(sizes, e.Sizes), append(streams, [3][]byte{})
		case api.EventBytes:
			last := &streams[len(streams)-1]
			last[e.Stream] = append(last[e.Stream], e.Bytes...)
		}
	}
	return h, sizes, streams
}

// meaning: P19.7's other side: what All tells, its streams swollen, and the windows that they make; false: there is none.
func meaning(b []byte) (api.Head, []api.Window, bool) {
	l, err := parse.All(b)
	if err != api.OK {
		return api.Head{}, nil, false
	}
	h, sizes, streams := gathered(l)
	var out []api.Window
	for i, s := range sizes {
		var raw [3][]byte
		for k, p := range streams[i] {
			if s.Raw[k] == 0 {
				continue
			}
			raw[k], err = swell.All(p, h.Look, s.Raw[k])
			if err != api.OK || len(raw[k]) != s.Raw[k] {
				return api.Head{}, nil, false
			}
		}
		steps, err := cutter.Uncontrol(raw[0])
		if err != api.OK {
			return api.Head{}, nil, false
		}
		w := api.Window{Pos: s.Pos, Edit: api.Edit{Steps: steps, Diff: raw[1], Extra: raw[2]}}
		if cutter.Check(w, api.MaxImage, min(h.Window, h.New-i*h.Window)) != api.OK {
			return api.Head{}, nil, false
		}
		out = append(out, w)
	}
	return h, out, true
}

// holdMeaning: P19.7 of any bytes; is it a patch?
func holdMeaning(t *testing.T, b []byte) bool {
	t.Helper()
	h, l, is := meaning(b)
	want, wantWindows, err := frame.Decode(b)
	if is != (err == api.OK) || h != want || len(l) != len(wantWindows) {
		t.Fatalf("% x: %v, %v, %v, but Decode %v, %v, %v", b, h, l, is, want, wantWindows, err)
	}
	for i, w := range l {
		x := wantWindows[i]
		if w.Pos != x.Pos || !slices.Equal(w.Edit.Steps, x.Edit.Steps) || !bytes.Equal(w.Edit.Diff, x.Edit.Diff) || !bytes.Equal(w.Edit.Extra, x.Edit.Extra) {
			t.Fatalf("% x: window %d: %v, but Decode %v", b, i, w, x)
		}
	}
	return is
}

// P19.7: what frame.Encode writes, All takes, and it means the same; of drawn patches, bent ones with right sums, and drawn bytes.
func TestMeaningOfDrawn(t *testing.T) {
	r := rolls(6)
	count := map[[2]int]int{} // by whether All takes it, and whether Decode does
	tally := func(b []byte) {
		t.Helper()
		decoded := 0
		if holdMeaning(t, b) {
			decoded = 1
		}
		parsed := 0
		if _, err := parse.All(b); err == api.OK {
			parsed = 1
		}
		count[[2]int{parsed, decoded}]++
	}
	for range 400 {
		h := r.head()
		var windows []api.Window
		var parts [][]byte
		for _, n := range sizesOf(h) {
			w := r.window(h.Old, n)
			windows, parts = append(windows, w), append(parts, windowPart(t, h.Look, w).bytes())
		}
		b, err := frame.Encode(h, options(h.Look), windows...)
		if err != api.OK || !bytes.Equal(b, sealed(headBytes(h), slices.Concat(parts...))) {
			t.Fatalf("Encode(%v, %v): % x, %v", h, windows, b, err)
		}
		tally(b)
		tally(r.bent(b))
		tally(sealed(headBytes(h), r.data(r.below(60))))
		for range 6 {
			l := slices.Clone(parts)
			if len(l) > 0 {
				k := r.below(len(l))
				l[k] = r.bent(l[k])
			}
			tally(sealed(headBytes(h), slices.Concat(l...)))
		}
	}
	if count[[2]int{1, 1}] < 300 || count[[2]int{1, 0}] < 300 || count[[2]int{0, 0}] < 300 {
		t.Errorf("%v", count)
	}
}

// P19.7: windows of six bytes whose streams are none, of other sizes, or make a window that may not be: All takes all of them, and Decode just those that may be.
func TestMeaningOfStreams(t *testing.T) {
	h := api.Head{Old: 10, New: 6, Window: 64, Look: 20}
	control, six := []byte{4, 2, 0}, []byte("abcdef")
	press := func(raw []byte) string { return pressed(t, 20, raw) }
	whole := func(control []byte, diff int) part {
		return pressedPart(t, 20, 3, control, make([]byte, diff), make([]byte, 6-diff))
	}
	far := slices.Concat(six[:3], make([]byte, 40), six[:3]) // a match that leads 43 bytes back
	raw := [3]int{3, 4, 2}
	for _, c := range []struct {
		name string
		p    part
		is   bool
	}{
		{"as it should be", whole(control, 4), true},
		{"a control that is no stream", partOf(3, raw, "\x07", press(six[:4]), press(six[4:])), false},
		{"a Diff that is no stream", partOf(3, raw, press(control), "\xff\xff", press(six[4:])), false},
		{"an Extra that is no stream", partOf(3, raw, press(control), press(six[:4]), "\x06"), false},
		{"a control cut short", partOf(3, raw, press(control)[:len(press(control))-1], press(six[:4]), press(six[4:])), false},
		{"a Diff with a byte more", partOf(3, raw, press(control), press(six[:4])+"\x00", press(six[4:])), false},
		{"a Diff of a byte too many", partOf(3, raw, press(control), press(six[:5]), press(six[4:])), false},
		{"a Diff of a byte too few", partOf(3, raw, press(control), press(six[:3]), press(six[4:])), false},
		{"an Extra of none", partOf(3, raw, press(control), press(six[:4]), "\x03\x00"), false},
		{"a control of six bytes, told as three", partOf(3, raw, press([]byte{2, 2, 0, 2, 0, 0}), press(six[:4]), press(six[4:])), false},
		{"streams in another order", partOf(3, raw, press(six[:4]), press(control), press(six[4:])), false},
		{"a control that ends within a step", whole([]byte{4, 2}, 4), false},
		{"a control in a longer form", whole([]byte{132, 0, 2, 0}, 4), false},
		{"an Add too many", whole([]byte{5, 1, 0}, 4), false},
		{"a Copy too many", whole([]byte{4, 3, 0}, 4), false},
		{"an empty step", whole([]byte{0, 0, 0, 4, 2, 0}, 4), false},
		{"a last Seek", whole([]byte{4, 2, 2}, 4), false},
		{"a Seek below 0", whole([]byte{1, 0, 9, 3, 2, 0}, 4), false},
		{"a Seek to 0", whole([]byte{1, 0, 7, 3, 2, 0}, 4), true},
		{"a reading beyond Old, within MaxImage", whole([]byte{1, 0, 40, 3, 2, 0}, 4), true},
		{"a reading beyond MaxImage", whole(append(append([]byte{1, 0}, shortest(2*(1<<24-4))...), 3, 2, 0), 4), false},
		{"a reading just within MaxImage", whole(append(append([]byte{1, 0}, shortest(2*(1<<24-7))...), 3, 2, 0), 4), true},
	} {
		b := patchOf(headBytes(h), c.p)
		if _, err := parse.All(b); err != api.OK {
			t.Errorf("%s: All: %v", c.name, err)
		}
		if is := holdMeaning(t, b); is != c.is {
			t.Errorf("%s: %v", c.name, is)
		}
	}
	// A distance within a stream that is just the header's Look, and one beyond it.
	long := api.Head{Old: 10, New: len(far), Window: 64, Look: 100}
	steps := []byte{0, byte(len(far)), 0}
	for look := 35; look < 50; look++ {
		long.Look = look
		p := partOf(0, [3]int{3, 0, len(far)}, press(steps), "", pressed(t, 100, far))
		if is := holdMeaning(t, patchOf(headBytes(long), p)); is != (look >= 43) {
			t.Errorf("Look %d: %v", look, is)
		}
	}
}

// P19.8: Made never goes above the header's New, never falls, and is New when the patch has ended.
func TestMade(t *testing.T) {
	r := rolls(7)
	for range 500 {
		h, l := r.patch()
		b := sealed(headBytes(h), slices.Concat(l...))
		if r.below(2) == 0 {
			b = r.bent(b)
		}
		p := parse.New()
		made := 0
		for at := 0; at < len(b) && !p.Done(); {
			_, n, err := p.Step(b[at:min(len(b), at+1+r.below(40))])
			now := p.Made()
			head, told := p.Head()
			if now < made || now > head.New || !told && now != 0 {
				t.Fatalf("% x: behind %d bytes: Made %d, and was %d; New is %d", b, p.Taken(), now, made, head.New)
			}
			made = now
			if p.Done() && made != head.New {
				t.Fatalf("% x: at the end: Made %d, not %d", b, made, head.New)
			}
			if err != api.OK {
				break
			}
			at += n
		}
	}
}

// P19.8, R6: the greatest image, in the smallest windows and in the greatest ones.
func TestGreatestImage(t *testing.T) {
	for _, window := range []int{64, 65, 65535, 65536} {
		h := api.Head{Old: 1 << 24, New: 1 << 24, OldSum: 9, NewSum: 8, Window: window, Look: 32768}
		head := headBytes(h)
		parts := [][]byte{head}
		l := sizesOf(h)
		for _, n := range l {
			parts = append(parts, partOf(1<<24, [3]int{1, 0, n}, "a", "", "b").bytes())
		}
		b := sealed(parts...)
		p := parse.New()
		windows, made := 0, 0
		for at := 0; !p.Done(); {
			told, n, err := p.Step(b[at:])
			if err != api.OK || n == 0 {
				t.Fatalf("windows of %d: behind %d bytes: %d, %v", window, at, n, err)
			}
			if told.Kind == api.EventWindow {
				made += l[windows]
				windows++
			}
			if p.Made() != made {
				t.Fatalf("windows of %d: behind %d of them: Made %d, not %d", window, windows, p.Made(), made)
			}
			at += n
		}
		if windows != len(l) || p.Made() != 1<<24 || p.Taken() != len(b) || p.End() != api.OK {
			t.Errorf("windows of %d: %d of %d, Made %d, Taken %d of %d, %v", window, windows, len(l), p.Made(), p.Taken(), len(b), p.End())
		}
	}
}
