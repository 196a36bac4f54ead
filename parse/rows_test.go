package parse_test

import (
	"bytes"
	"hash/crc32"
	"math"
	"slices"
	"testing"

	"sapper/api"
	"sapper/cutter"
	"sapper/num"
	"sapper/parse"
	"sapper/press"
)

// four: bytes, the least first.
func four(v uint32) []byte {
	return []byte{byte(v % 256), byte(v / 256 % 256), byte(v / 65536 % 256), byte(v / 16777216)}
}

// sealed: parts, one behind the other, and their sum.
func sealed(parts ...[]byte) []byte {
	all := slices.Concat(parts...)
	return append(all, four(crc32.ChecksumIEEE(all))...)
}

// shortest: numbers' shortest forms, by chapter 1.
func shortest(l ...int) []byte {
	var out []byte
	for _, v := range l {
		for v >= 128 {
			out = append(out, byte(128+v%128))
			v /= 128
		}
		out = append(out, byte(v))
	}
	return out
}

// top: a header's numbers as bytes, which may be bent, and the sums of the images.
type top struct {
	numbers  [4][]byte
	old, new uint32
}

// topOf: a header's.
func topOf(h api.Head) top {
	return top{[4][]byte{shortest(h.Old), shortest(h.New), shortest(h.Window), shortest(h.Look)}, h.OldSum, h.NewSum}
}

// bytes: a header's bytes, with its sum.
func (h top) bytes() []byte {
	return sealed([]byte("SAPR\x01"), slices.Concat(h.numbers[:]...), four(h.old), four(h.new))
}

// headBytes: likewise, of one whose numbers are 0 or more.
func headBytes(h api.Head) []byte { return topOf(h).bytes() }

// part: a frame's numbers as bytes, which may be bent, and its streams, of which nothing is looked at.
type part struct {
	numbers [7][]byte
	streams [3][]byte
}

// bytes: one behind the other.
func (p part) bytes() []byte {
	return slices.Concat(slices.Concat(p.numbers[:]...), slices.Concat(p.streams[:]...))
}

// partOf: with these raw sizes, and these streams.
func partOf(pos int, raw [3]int, streams ...string) part {
	var out part
	out.numbers[0] = shortest(pos)
	for k := range 3 {
		out.numbers[1+k] = shortest(raw[k])
		out.numbers[4+k] = shortest(len(streams[k]))
		out.streams[k] = []byte(streams[k])
	}
	return out
}

// base: a header of two windows, the last one of two bytes, and their frames.
func base() (api.Head, [2]part) {
	h := api.Head{Old: 5, New: 66, OldSum: 0x04030201, NewSum: 0xf8f7f6f5, Window: 64, Look: 100}
	return h, [2]part{partOf(5, [3]int{3, 0, 64}, "a", "", "bc"), partOf(0, [3]int{1, 2, 0}, "def", "g", "")}
}

// patchOf: a header's bytes, and frames.
func patchOf(head []byte, l ...part) []byte {
	parts := [][]byte{head}
	for _, p := range l {
		parts = append(parts, p.bytes())
	}
	return sealed(parts...)
}

// basePatch: of the base: 46 bytes.
func basePatch() []byte {
	h, l := base()
	return patchOf(headBytes(h), l[:]...)
}

// moment: what is told with the last of so many bytes, and what a parser then tells.
type moment struct {
	at    int
	told  api.Event
	first int // which byte is the first of what is told
	made  int
}

// baseMoments: what is told of the base, one behind the other.
func baseMoments() []moment {
	h, _ := base()
	return []moment{
		{21, api.Event{Kind: api.EventHead, Head: h}, 0, 0},
		{28, api.Event{Kind: api.EventWindow, Sizes: api.Sizes{Pos: 5, Raw: [3]int{3, 0, 64}, Packed: [3]int{1, 0, 2}}}, 21, 64},
		{29, api.Event{Kind: api.EventBytes, Stream: 0, Bytes: []byte("a")}, 28, 64},
		{31, api.Event{Kind: api.EventBytes, Stream: 2, Bytes: []byte("bc")}, 29, 64},
		{38, api.Event{Kind: api.EventWindow, Sizes: api.Sizes{Pos: 0, Raw: [3]int{1, 2, 0}, Packed: [3]int{3, 1, 0}}}, 31, 66},
		{41, api.Event{Kind: api.EventBytes, Stream: 0, Bytes: []byte("def")}, 38, 66},
		{42, api.Event{Kind: api.EventBytes, Stream: 1, Bytes: []byte("g")}, 41, 66},
		{46, api.Event{Kind: api.EventEnd}, 42, 66},
	}
}

// patches: some short ones: of nothing, of one window, of one whose streams are all there, of several, of numbers of several bytes.
func patches() [][]byte {
	h, _ := base()
	one, three, wide := h, h, h
	one.New, three.New = 3, 64*2+1
	wide.Old, wide.New, wide.Window, wide.Look = 1<<24, 300, 200, 32768
	full := partOf(2, [3]int{9, 60, 4}, "xyz", "uvw", "q")
	last := partOf(0, [3]int{4, 0, 1}, "ab", "", "c")
	return [][]byte{
		sealed(headBytes(api.Head{Window: 64, Look: 100})),
		patchOf(headBytes(one), partOf(5, [3]int{384, 0, 3}, "m", "", "n")),
		patchOf(headBytes(one), partOf(0, [3]int{1, 1, 2}, "mm", "nnn", "oooo")),
		basePatch(),
		patchOf(headBytes(three), full, full, last),
		patchOf(headBytes(wide), partOf(1<<24, [3]int{1200, 130, 70}, "abcd", string(make([]byte, 150)), "ef"), partOf(300, [3]int{2, 100, 0}, "\x80", "\xff", "")),
	}
}

// same: are two events the same?
func same(a, b api.Event) bool {
	return a.Kind == b.Kind && a.Head == b.Head && a.Sizes == b.Sizes && a.Stream == b.Stream && bytes.Equal(a.Bytes, b.Bytes)
}

// sameAll: of two lists.
func sameAll(a, b []api.Event) bool { return slices.EqualFunc(a, b, same) }

// pair: a parser, and the model that it is held against.
type pair struct {
	t *testing.T
	p *parse.Parser
	m *model
}

// pairOf: both wait for the first of these bytes.
func pairOf(t *testing.T, b []byte) pair {
	t.Helper()
	x := pair{t, parse.New(), modelOf(b)}
	x.hold()
	return x
}

// hold: P19.3, P19.4.
func (x pair) hold() {
	x.t.Helper()
	h, told := x.p.Head()
	if h != x.m.head || told != x.m.headTold {
		x.t.Fatalf("% x: behind %d bytes: Head %v, %v, not %v, %v", x.m.bytes, x.m.taken, h, told, x.m.head, x.m.headTold)
	}
	if x.p.Taken() != x.m.taken || x.p.Made() != x.m.made || x.p.Done() != x.m.done() || x.p.End() != x.m.end() || x.p.Room() != 64 {
		x.t.Fatalf("% x: behind %d bytes: Taken %d, Made %d, Done %v, End %v, Room %d, not %d, %v, %v, 64", x.m.bytes, x.m.taken, x.p.Taken(), x.p.Made(), x.p.Done(), x.p.End(), x.p.Room(), x.m.made, x.m.done(), x.m.end())
	}
}

// step: P19.2, of the next so many bytes.
func (x pair) step(count int) (api.Event, int, api.Errno) {
	x.t.Helper()
	at := x.m.taken
	told, n, err := x.p.Step(x.m.bytes[at : at+count])
	want, wantN, wantErr := x.m.step(count)
	if !same(told, want) || n != wantN || err != wantErr {
		x.t.Fatalf("% x: behind %d bytes Step of %d: %v, %d, %v, not %v, %d, %v", x.m.bytes, at, count, told, n, err, want, wantN, wantErr)
	}
	x.hold()
	return told, n, err
}

// left: how many bytes were not taken.
func (x pair) left() int { return len(x.m.bytes) - x.m.taken }

// over: will no more bytes be taken?
func (x pair) over() bool { return x.left() == 0 || x.m.done() || x.m.err != api.OK }

// run: pieces of these sizes, as they come, until no more bytes are taken; its error.
func (x pair) run(size func() int) api.Errno {
	x.t.Helper()
	for !x.over() {
		x.step(min(size(), x.left()))
	}
	x.step(x.left())
	x.step(0)
	return x.p.End()
}

// holdSteps: of any bytes: whole, byte by byte, and in pieces that are drawn; All, too; its error.
func holdSteps(t *testing.T, r *rolls, b []byte) api.Errno {
	t.Helper()
	pairOf(t, b).run(func() int { return len(b) })
	pairOf(t, b).run(func() int { return 1 })
	most := 1 + r.below(len(b)+1)
	pairOf(t, b).run(func() int { return r.below(most + 1) })
	got, err := parse.All(b)
	want, wantErr := allOf(b)
	if !sameAll(got, want) || err != wantErr {
		t.Fatalf("All(% x) = %v, %v, not %v, %v", b, got, err, want, wantErr)
	}
	return err
}

// wrongAt: which byte of these is wrong, if they come one by one, and its error; -1: none is.
func wrongAt(t *testing.T, b []byte) (int, api.Errno) {
	t.Helper()
	p := parse.New()
	for i := range b {
		told, n, err := p.Step(b[i : i+1])
		if err != api.OK {
			if n != 0 || !same(told, api.Event{}) {
				t.Fatalf("% x: beside the error %v: %v, %d", b, err, told, n)
			}
			return i, err
		}
		if n == 0 {
			return -1, api.OK
		}
	}
	return -1, api.OK
}

// expectWrong: this byte is wrong, with this error, in whatever pieces the bytes come.
func expectWrong(t *testing.T, name string, b []byte, at int, want api.Errno) {
	t.Helper()
	if got, err := wrongAt(t, b); got != at || err != want {
		t.Errorf("%s: byte %d is wrong, %v; not %d, %v", name, got, err, at, want)
	}
	r := rolls(len(b))
	if err := holdSteps(t, &r, b); err != want {
		t.Errorf("%s: All: %v, not %v", name, err, want)
	}
}

// expectPatch: no byte is wrong, and it ends.
func expectPatch(t *testing.T, name string, b []byte) {
	t.Helper()
	if got, err := wrongAt(t, b); got != -1 || err != api.OK {
		t.Errorf("%s: byte %d is wrong, %v", name, got, err)
	}
	r := rolls(len(b))
	if err := holdSteps(t, &r, b); err != api.OK {
		t.Errorf("%s: All: %v", name, err)
	}
}

// great: shortest forms of numbers far above all that a patch has, most of which would come back to v where numbers of fewer bits go round.
func great(v int) [][]byte {
	out := [][]byte{shortest(1<<24 + 1), num.Encode(math.MaxInt64), num.Encode(math.MaxUint64), num.Encode(math.MaxUint64 - 63), num.Encode(1<<64 - 1<<24)}
	for k := 25; k < 64; k++ {
		out = append(out, num.Encode(1<<k), num.Encode(1<<k+uint64(v)))
	}
	return out
}

// rolls: numbers that follow no pattern and are the same at each run.
type rolls uint64

// below: a number from 0 on, below n.
func (r *rolls) below(n int) int {
	*r = *r*6364136223846793005 + 1442695040888963407
	return int(uint64(*r>>33) % uint64(n))
}

// of: one of these.
func (r *rolls) of(l ...int) int { return l[r.below(len(l))] }

// data: n bytes, of few kinds or of many.
func (r *rolls) data(n int) []byte {
	kinds := r.of(1, 2, 5, 256)
	out := make([]byte, n)
	for i := range out {
		out[i] = byte(r.below(kinds))
	}
	return out
}

// word: 32 bits.
func (r *rolls) word() uint32 { return uint32(r.below(1<<16))<<16 | uint32(r.below(1<<16)) }

// head: a header that may be, of few windows.
func (r *rolls) head() api.Head {
	h := api.Head{Old: r.below(300), New: r.below(300), OldSum: r.word(), NewSum: r.word(), Window: 64 + r.below(40), Look: 1 + r.below(300)}
	if r.below(4) == 0 {
		h.Old = r.of(0, 127, 128, 1<<14, 1<<24)
	}
	if r.below(4) == 0 {
		h.New = h.Window*r.below(4) + r.below(2)
	}
	if r.below(4) == 0 {
		h.Window = r.of(64, 127, 128, 65535, 65536)
	}
	if r.below(4) == 0 {
		h.Look = r.of(1, 2, 127, 128, 32767, 32768)
	}
	return h
}

// sizesOf: how many bytes each of a header's windows makes.
func sizesOf(h api.Head) []int {
	var out []int
	for left := h.New; left > 0; left -= min(left, h.Window) {
		out = append(out, min(left, h.Window))
	}
	return out
}

// loose: a frame that may be for a window of so many bytes, whose streams are any bytes.
func (r *rolls) loose(h api.Head, size int) part {
	diff := r.of(0, size, r.below(size+1))
	raw := [3]int{r.of(1, 6*h.Window, 1+r.below(6*h.Window)), diff, size - diff}
	var streams [3]string
	for k, n := range raw {
		if n > 0 {
			streams[k] = string(r.data(min(4*n+64, r.of(1, 1, 2, 1+r.below(30), 120+r.below(20)))))
		}
	}
	return partOf(r.of(0, h.Old, r.below(h.Old+1)), raw, streams[:]...)
}

// patch: a drawn header's bytes, and those of its frames; of the streams nothing is known.
func (r *rolls) patch() (api.Head, [][]byte) {
	h := r.head()
	var out [][]byte
	for _, n := range sizesOf(h) {
		out = append(out, r.loose(h, n).bytes())
	}
	return h, out
}

// window: one of so many bytes that may be over old bytes.
func (r *rolls) window(old, size int) api.Window {
	out := api.Window{Pos: r.below(old + 1)}
	place := out.Pos
	for size > 0 {
		s := api.Step{Add: r.below(min(old-place, size, 40) + 1)}
		s.Copy = r.below(2) * r.below(min(size-s.Add, 40)+1)
		if s.Add+s.Copy == 0 {
			s.Copy = 1
		}
		size -= s.Add + s.Copy
		place += s.Add
		if to := r.below(old + 1); size > 0 && r.below(3) > 0 {
			s.Seek = to - place
			place = to
		}
		out.Edit.Steps = append(out.Edit.Steps, s)
		out.Edit.Diff = append(out.Edit.Diff, r.data(s.Add)...)
		out.Edit.Extra = append(out.Edit.Extra, r.data(s.Copy)...)
	}
	return out
}

// options: by which streams of that look are pressed.
func options(look int) api.Press {
	return api.Press{Look: api.Look{Window: look, Chain: 10}, Block: 50}
}

// pressed: the stream of bytes; nothing of none.
func pressed(t *testing.T, look int, raw []byte) string {
	t.Helper()
	if len(raw) == 0 {
		return ""
	}
	p, err := press.Press(raw, options(look))
	if err != api.OK {
		t.Fatal(err)
	}
	return string(p)
}

// pressedPart: of a control, a Diff and an Extra.
func pressedPart(t *testing.T, look, pos int, raw ...[]byte) part {
	t.Helper()
	var sizes [3]int
	var streams [3]string
	for k := range 3 {
		sizes[k], streams[k] = len(raw[k]), pressed(t, look, raw[k])
	}
	return partOf(pos, sizes, streams[:]...)
}

// windowPart: of a window.
func windowPart(t *testing.T, look int, w api.Window) part {
	t.Helper()
	control, err := cutter.Control(w.Edit.Steps...)
	if err != api.OK {
		t.Fatal(err)
	}
	return pressedPart(t, look, w.Pos, control, w.Edit.Diff, w.Edit.Extra)
}

// bent: bytes with something that is a little otherwise.
func (r *rolls) bent(b []byte) []byte {
	b = slices.Clone(b)
	if len(b) == 0 {
		return b
	}
	at := r.below(len(b))
	switch r.below(5) {
	case 0:
		b[at] ^= 1 << r.below(8)
	case 1:
		b[at] = byte(r.below(256))
	case 2:
		b = slices.Delete(b, at, at+1)
	case 3:
		b = slices.Insert(b, at, byte(r.below(256)))
	case 4:
		b = slices.Insert(b, at, b[at]|128)
	}
	return b
}
