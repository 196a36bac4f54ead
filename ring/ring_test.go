package ring_test

import (
	"bytes"
	"math"
	"slices"
	"testing"

	"sapper/api"
	"sapper/ring"
)

// rolls: numbers that follow no pattern and are the same at each run.
type rolls uint64

// below: a number from 0 on, below n.
func (r *rolls) below(n int) int {
	*r = *r*6364136223846793005 + 1442695040888963407
	return int(uint64(*r>>33) % uint64(n))
}

// text: so many bytes.
func (r *rolls) text(n int) []byte {
	out := make([]byte, n)
	for i := range out {
		out[i] = byte(r.below(256))
	}
	return out
}

// tried: a ring, and beside it all that was put into it, as the chapter has it.
type tried struct {
	*ring.Ring
	size int
	all  []byte
}

// made: a ring of that size into which these bytes were put.
func made(t *testing.T, size int, all ...byte) *tried {
	t.Helper()
	r, err := ring.New(size)
	if err != api.OK || r == nil {
		t.Fatalf("New(%d): %d", size, err)
	}
	x := &tried{Ring: r, size: size}
	x.put(t, all...)
	return x
}

// held: how many bytes it must hold.
func (x *tried) held() int { return min(len(x.all), x.size) }

// put: these bytes come behind the others.
func (x *tried) put(t *testing.T, b ...byte) {
	t.Helper()
	if err := x.Put(b...); err != api.OK {
		t.Fatalf("size %d: Put of %d bytes: %d", x.size, len(b), err)
	}
	x.all = append(x.all, b...)
}

// copied: n times the byte that stands dist ahead is put in, and is what Copy answers.
func (x *tried) copied(t *testing.T, dist, n int) {
	t.Helper()
	first := len(x.all)
	for range n {
		x.all = append(x.all, x.all[len(x.all)-dist])
	}
	got, err := x.Copy(dist, n)
	if err != api.OK || !bytes.Equal(got, x.all[first:]) {
		t.Fatalf("size %d, %d bytes: Copy(%d, %d): %v, %d, not %v", x.size, first, dist, n, got, err, x.all[first:])
	}
}

// reset: all is empty.
func (x *tried) reset() {
	x.Reset()
	x.all = nil
}

// check: every distance, and the numbers, are as the chapter says.
func (x *tried) check(t *testing.T) {
	t.Helper()
	if x.Held() != x.held() || x.Total() != len(x.all) || x.Room() != x.size {
		t.Fatalf("size %d, %d bytes: Held %d, Total %d, Room %d", x.size, len(x.all), x.Held(), x.Total(), x.Room())
	}
	for dist := 1; dist <= x.held(); dist++ {
		if b, err := x.At(dist); err != api.OK || b != x.all[len(x.all)-dist] {
			t.Fatalf("size %d, %d bytes: At(%d): %d, %d", x.size, len(x.all), dist, b, err)
		}
	}
	x.last(t, 0)
	x.last(t, x.held()/2)
	x.last(t, x.held())
}

// last: Last(n) is the end of all.
func (x *tried) last(t *testing.T, n int) {
	t.Helper()
	if l, err := x.Last(n); err != api.OK || !bytes.Equal(l, x.all[len(x.all)-n:]) {
		t.Fatalf("size %d, %d bytes: Last(%d): %v, %d", x.size, len(x.all), n, l, err)
	}
}

// refused: every call that may be refused is, the first fault told, and nothing has changed.
func (x *tried) refused(t *testing.T) {
	t.Helper()
	wrongDists := []int{math.MinInt, -1 << 32, -x.size, -1, 0, x.held() + 1, x.held() + x.size, 1<<32 + 1, math.MaxInt}
	wrongCounts := []int{math.MinInt, -258, -1, api.MaxMatch + 1, 1 << 16, 1<<32 + 1, math.MaxInt}
	for _, dist := range wrongDists {
		if b, err := x.At(dist); b != 0 || err != api.ErrRingFar {
			t.Fatalf("size %d, %d bytes: At(%d): %d, %d", x.size, len(x.all), dist, b, err)
		}
		for _, n := range []int{0, 1, 3, api.MaxMatch} {
			x.noCopy(t, dist, n, api.ErrRingFar)
		}
	}
	for _, n := range wrongCounts {
		for _, dist := range append(wrongDists, 1, x.held()) {
			x.noCopy(t, dist, n, api.ErrArg)
		}
	}
	for _, n := range []int{math.MinInt, -1 << 32, -1, x.held() + 1, x.held() + x.size + 1, 1 << 32, math.MaxInt} {
		if l, err := x.Last(n); len(l) != 0 || err != api.ErrArg {
			t.Fatalf("size %d, %d bytes: Last(%d): %v, %d", x.size, len(x.all), n, l, err)
		}
	}
	x.check(t)
}

// noCopy: Copy answers this error, and nothing beside it.
func (x *tried) noCopy(t *testing.T, dist, n int, want api.Errno) {
	t.Helper()
	if b, err := x.Copy(dist, n); len(b) != 0 || err != want {
		t.Fatalf("size %d, %d bytes: Copy(%d, %d): %v, %d, not %d", x.size, len(x.all), dist, n, b, err, want)
	}
	if x.Total() != len(x.all) {
		t.Fatalf("size %d, %d bytes: behind Copy(%d, %d) Total is %d", x.size, len(x.all), dist, n, x.Total())
	}
}

// spoil: writes over an answer and over the room behind it, and appends to it.
func spoil(p []byte) {
	room := p[:cap(p)]
	for i := range room {
		room[i] ^= 0x5a
	}
	p = append(p, 0xee, 0xee, 0xee)
	p[0] = 0xee
}

// The chapter's examples.

func TestExampleOfSizes(t *testing.T) {
	for _, size := range []int{0, -1, 32769} {
		if r, err := ring.New(size); r != nil || err != api.ErrRingSize {
			t.Errorf("New(%d): %d", size, err)
		}
	}
	r, err := ring.New(4)
	if err != api.OK || r.Held() != 0 || r.Total() != 0 || r.Room() != 4 {
		t.Errorf("New(4): %d", err)
	}
	if b, err := r.At(1); b != 0 || err != api.ErrRingFar {
		t.Errorf("At(1): %d, %d", b, err)
	}
	if l, err := r.Last(0); len(l) != 0 || err != api.OK {
		t.Errorf("Last(0): %v, %d", l, err)
	}
}

func TestExampleOfPut(t *testing.T) {
	r, _ := ring.New(4)
	at := func(dist int, want byte, wantErr api.Errno) {
		t.Helper()
		if b, err := r.At(dist); b != want || err != wantErr {
			t.Errorf("At(%d): %d, %d", dist, b, err)
		}
	}
	r.Put(1, 2, 3)
	at(1, 3, api.OK)
	at(3, 1, api.OK)
	at(4, 0, api.ErrRingFar)
	r.Put(4, 5)
	at(4, 2, api.OK)
	at(5, 0, api.ErrRingFar)
	if r.Held() != 4 || r.Total() != 5 {
		t.Errorf("Held %d, Total %d", r.Held(), r.Total())
	}
	if l, err := r.Last(4); !slices.Equal(l, []byte{2, 3, 4, 5}) || err != api.OK {
		t.Errorf("Last(4): %v, %d", l, err)
	}
	if l, err := r.Last(5); len(l) != 0 || err != api.ErrArg {
		t.Errorf("Last(5): %v, %d", l, err)
	}
}

func TestExampleOfCopyAndReset(t *testing.T) {
	r, _ := ring.New(4)
	r.Put(1, 2)
	if b, err := r.Copy(2, 5); !slices.Equal(b, []byte{1, 2, 1, 2, 1}) || err != api.OK || r.Total() != 7 {
		t.Errorf("Copy(2, 5): %v, %d; Total %d", b, err, r.Total())
	}
	if l, err := r.Last(4); !slices.Equal(l, []byte{2, 1, 2, 1}) || err != api.OK {
		t.Errorf("Last(4): %v, %d", l, err)
	}
	if b, err := r.Copy(1, 3); !slices.Equal(b, []byte{1, 1, 1}) || err != api.OK {
		t.Errorf("Copy(1, 3): %v, %d", b, err)
	}
	for _, c := range []struct {
		dist, n int
		err     api.Errno
	}{{5, 1, api.ErrRingFar}, {1, 259, api.ErrArg}, {9, -1, api.ErrArg}} {
		if b, err := r.Copy(c.dist, c.n); len(b) != 0 || err != c.err {
			t.Errorf("Copy(%d, %d): %v, %d", c.dist, c.n, b, err)
		}
	}
	r.Reset()
	if b, err := r.At(1); b != 0 || err != api.ErrRingFar || r.Held() != 0 || r.Total() != 0 || r.Room() != 4 {
		t.Errorf("behind Reset: At(1) %d, %d, Held %d, Total %d, Room %d", b, err, r.Held(), r.Total(), r.Room())
	}
}

func TestErrorsHaveTheirNumbers(t *testing.T) {
	_, size := ring.New(0)
	r, _ := ring.New(1)
	_, far := r.At(1)
	_, arg := r.Last(1)
	if size != 60 || far != 61 || arg != 1 || (*ring.Ring)(nil).Put() != 2 {
		t.Errorf("errors %d, %d, %d", size, far, arg)
	}
}

// P6.1

func TestNewOfSizes(t *testing.T) {
	for size := 1; size <= api.MaxLook; size += 1 + size/3 {
		x := made(t, size)
		x.check(t)
		x.refused(t)
	}
	for _, size := range []int{1, 2, 257, 258, 259, api.MaxLook - 1, api.MaxLook} {
		x := made(t, size)
		x.check(t)
		x.refused(t)
	}
}

func TestNewRefusesSizes(t *testing.T) {
	for _, size := range []int{math.MinInt, -1 << 32, -32768, -4, -1, 0, api.MaxLook + 1, 65536, 1 << 32, 1<<32 + 4, math.MaxInt} {
		if r, err := ring.New(size); r != nil || err != api.ErrRingSize {
			t.Errorf("New(%d): %v, %d", size, r, err)
		}
	}
}

// P6.2

// counts: how many bytes are put in, around a size and its multiples.
func counts(size int) []int {
	var out []int
	for _, n := range []int{0, 1, 2, size / 2, size - 1, size, size + 1, 2*size - 1, 2 * size, 2*size + 1, 7*size + 3} {
		if !slices.Contains(out, n) {
			out = append(out, n)
		}
	}
	return out
}

// Every count of bytes behind every other one.
func TestPut(t *testing.T) {
	g := rolls(1)
	for _, size := range []int{1, 2, 3, 4, 5, 8, 13, 100} {
		for _, first := range counts(size) {
			for _, second := range counts(size) {
				x := made(t, size, g.text(first)...)
				x.check(t)
				x.put(t, g.text(second)...)
				x.check(t)
				x.put(t, 7)
				x.check(t)
			}
		}
	}
}

func TestPutOfTheGreatestSize(t *testing.T) {
	g := rolls(2)
	for _, first := range counts(api.MaxLook) {
		x := made(t, api.MaxLook, g.text(first)...)
		x.check(t)
		x.put(t, g.text(5)...)
		x.check(t)
		x.put(t, g.text(api.MaxLook-3)...)
		x.check(t)
		x.refused(t)
	}
}

func TestPutOfNoBytes(t *testing.T) {
	for _, all := range [][]byte{nil, {1}, {1, 2, 3, 4}, {1, 2, 3, 4, 5, 6}} {
		x := made(t, 4, all...)
		x.put(t)
		x.put(t, []byte{}...)
		x.put(t, []byte(nil)...)
		x.check(t)
	}
}

// The same bytes, in whatever pieces they are put in, make the same ring.
func TestPutInPieces(t *testing.T) {
	g := rolls(3)
	for size := 1; size <= 40; size++ {
		x, all := made(t, size), g.text(200)
		for len(all) > 0 {
			n := min(g.below(2*size+2), len(all))
			x.put(t, all[:n]...)
			all = all[n:]
			x.check(t)
		}
	}
}

func TestReset(t *testing.T) {
	g := rolls(4)
	for _, size := range []int{1, 2, 4, 7, 300} {
		for _, n := range counts(size) {
			x := made(t, size, g.text(n)...)
			x.reset()
			x.check(t)
			x.refused(t)
			x.put(t, g.text(1)...)
			x.check(t)
			x.refused(t)
			x.copied(t, 1, min(size, api.MaxMatch))
			x.put(t, g.text(size+1)...)
			x.check(t)
			x.reset()
			x.reset()
			x.put(t, g.text(3)...)
			x.check(t)
		}
	}
}

// P6.3

func TestAt(t *testing.T) {
	g := rolls(5)
	for size := 1; size <= 12; size++ {
		for n := range 30 {
			x := made(t, size, g.text(n)...)
			for dist := -3; dist <= size+3; dist++ {
				want, wantErr := byte(0), api.ErrRingFar
				if dist >= 1 && dist <= x.held() {
					want, wantErr = x.all[n-dist], api.OK
				}
				if b, err := x.At(dist); b != want || err != wantErr {
					t.Fatalf("size %d, %d bytes: At(%d): %d, %d", size, n, dist, b, err)
				}
			}
			x.check(t)
		}
	}
}

// P6.4

// Of every distance every count up to thrice the size, at each place of the ring.
func TestCopy(t *testing.T) {
	g := rolls(6)
	for size := 1; size <= 9; size++ {
		for ahead := range 2*size + 2 {
			all := g.text(ahead)
			for dist := 1; dist <= min(size, ahead); dist++ {
				for n := range 3*size + 2 {
					x := made(t, size, all...)
					x.copied(t, dist, n)
					x.check(t)
					x.put(t, 9)
					x.check(t)
				}
			}
		}
	}
}

// Counts around MaxMatch, and around the distance, in rings of sizes below and above them.
func TestCopyOfManyBytes(t *testing.T) {
	g := rolls(7)
	for _, size := range []int{1, 2, 3, 100, 129, 257, 258, 259, 600, api.MaxLook} {
		for _, ahead := range []int{1, size - 1, size, size + 1, 2*size + 5} {
			for _, dist := range []int{1, 2, 3, size / 2, 257, 258, size - 1, size} {
				if dist < 1 || dist > min(size, ahead) {
					continue
				}
				x := made(t, size, g.text(ahead)...)
				for _, n := range []int{0, 1, 2, dist - 1, dist, dist + 1, 2 * dist, 2*dist + 1, 257, api.MaxMatch} {
					if n <= api.MaxMatch {
						x.copied(t, dist, n)
					}
				}
				x.check(t)
			}
		}
	}
}

func TestCopyOfNoBytes(t *testing.T) {
	x := made(t, 4)
	x.noCopy(t, 1, 0, api.ErrRingFar)
	x.put(t, 1, 2, 3)
	for _, dist := range []int{1, 2, 3} {
		x.copied(t, dist, 0)
	}
	x.noCopy(t, 4, 0, api.ErrRingFar)
	x.noCopy(t, 0, 0, api.ErrRingFar)
	x.check(t)
}

// Copy is n times At and Put.
func TestCopyIsAtAndPut(t *testing.T) {
	g := rolls(8)
	for _, size := range []int{1, 2, 5, 16, 300} {
		first := g.text(1 + g.below(2*size))
		x, y := made(t, size, first...), made(t, size, first...)
		for range 40 {
			dist, n := 1+g.below(x.Held()), g.below(api.MaxMatch+1)
			got, _ := x.Copy(dist, n)
			var want []byte
			for range n {
				b, _ := y.At(dist)
				y.Put(b)
				want = append(want, b)
			}
			a, _ := x.Last(x.Held())
			b, _ := y.Last(y.Held())
			if !bytes.Equal(got, want) || !bytes.Equal(a, b) || x.Total() != y.Total() {
				t.Fatalf("size %d: Copy(%d, %d): %v, not %v", size, dist, n, got, want)
			}
		}
	}
}

// P6.5

func TestLast(t *testing.T) {
	g := rolls(9)
	for size := 1; size <= 12; size++ {
		for ahead := range 30 {
			x := made(t, size, g.text(ahead)...)
			for n := range x.held() + 1 {
				x.last(t, n)
			}
			x.refused(t)
		}
	}
}

// P6.1 to P6.5, by any row of calls.

func TestRowsOfCalls(t *testing.T) {
	g := rolls(10)
	for _, size := range []int{1, 2, 3, 4, 10, 64, 257, 258, 259, 1000} {
		x := made(t, size)
		for range 300 {
			switch k := g.below(20); {
			case k == 0:
				x.reset()
			case k == 1:
				x.refused(t)
			case k < 10 && len(x.all) > 0:
				x.copied(t, 1+g.below(x.held()), g.below(api.MaxMatch+1))
			default:
				x.put(t, g.text(g.below(min(2*size, 40)+1))...)
			}
			x.check(t)
		}
	}
}

// P6.6

// What the smaller ring tells, the greater one tells, too.
func TestAGreaterRingTellsTheSame(t *testing.T) {
	g := rolls(11)
	for _, sizes := range [][2]int{{1, 2}, {1, api.MaxLook}, {2, 3}, {4, 5}, {4, 8}, {7, 100}, {258, 259}, {999, api.MaxLook}} {
		small, great := made(t, sizes[0]), made(t, sizes[1])
		for range 200 {
			if g.below(3) == 0 {
				b := g.text(g.below(2*min(sizes[0], 30) + 1))
				small.Put(b...)
				great.Put(b...)
			}
			dist, n := g.below(sizes[0]+3)-1, g.below(api.MaxMatch+4)-2
			sameTold(t, small, great, dist, n)
		}
	}
}

// sameTold: At, Copy, Last and Total of both.
func sameTold(t *testing.T, small, great *tried, dist, n int) {
	t.Helper()
	b, err := small.At(dist)
	if c, errc := great.At(dist); err != api.ErrRingFar && (c != b || errc != err) {
		t.Fatalf("sizes %d, %d: At(%d): %d, %d and %d, %d", small.size, great.size, dist, b, err, c, errc)
	}
	if l, err := small.Last(n); err == api.OK {
		if m, errm := great.Last(n); errm != api.OK || !bytes.Equal(l, m) {
			t.Fatalf("sizes %d, %d: Last(%d): %v and %v, %d", small.size, great.size, n, l, m, errm)
		}
	}
	// Where the smaller one refuses a distance the greater one is not asked: it might put bytes in.
	if l, err := small.Copy(dist, n); err != api.ErrRingFar {
		if m, errm := great.Copy(dist, n); errm != err || !bytes.Equal(l, m) {
			t.Fatalf("sizes %d, %d: Copy(%d, %d): %v, %d and %v, %d", small.size, great.size, dist, n, l, err, m, errm)
		}
	}
	if small.Total() != great.Total() {
		t.Fatalf("sizes %d, %d: Total %d and %d", small.size, great.size, small.Total(), great.Total())
	}
}

// P6.7

func TestBehindCopyEachByteStandsDistBehindItsLike(t *testing.T) {
	g := rolls(12)
	for _, size := range []int{600, 4096, api.MaxLook} {
		x := made(t, size, g.text(size+17)...)
		for range 100 {
			dist, n := 1+g.below(300), g.below(api.MaxMatch+1)
			b, err := x.Copy(dist, n)
			if err != api.OK || len(b) != n {
				t.Fatalf("Copy(%d, %d): %d bytes, %d", dist, n, len(b), err)
			}
			l, err := x.Last(dist + n)
			if err != api.OK || !bytes.Equal(l[dist:], l[:n]) || !bytes.Equal(l[dist:], b) {
				t.Fatalf("size %d: behind Copy(%d, %d) the last are %v, %d", size, dist, n, l, err)
			}
			for i := dist; i < n; i++ {
				if b[i] != b[i%dist] {
					t.Fatalf("Copy(%d, %d) does not repeat its first %d bytes: %v", dist, n, dist, b)
				}
			}
		}
	}
}

// P6.8

func TestErrorsChangeNothing(t *testing.T) {
	g := rolls(13)
	for _, size := range []int{1, 2, 4, 9, 258, 1000} {
		for _, n := range counts(size) {
			x := made(t, size, g.text(n)...)
			x.refused(t)
			x.put(t, g.text(3)...)
			x.refused(t)
			x.copied(t, x.held(), 5)
			x.check(t)
			x.refused(t)
			x.copied(t, 1, 4)
			x.check(t)
		}
	}
}

// Its memory is made by New.

func TestMemoryIsMadeByNew(t *testing.T) {
	p := make([]byte, 1000)
	for _, size := range []int{1, 4, 300, api.MaxLook} {
		r, _ := ring.New(size)
		none := func(what string, call func()) {
			t.Helper()
			if n := testing.AllocsPerRun(50, call); n != 0 {
				t.Errorf("size %d: %s makes memory: %v", size, what, n)
			}
		}
		none("Put", func() { r.Put(p...) })
		none("Put of a byte", func() { r.Put(p[0]) })
		none("At", func() { r.At(1); r.At(size); r.At(0) })
		none("Held, Total and Room", func() { _ = r.Held() + r.Total() + r.Room() })
		none("Copy that is refused", func() { r.Copy(0, 1); r.Copy(1, 259) })
		none("Last that is refused", func() { r.Last(-1); r.Last(size + 1) })
		none("Reset", func() { r.Reset() })
		r.Put(p...)
		held := r.Held()
		if n := testing.AllocsPerRun(50, func() { r.Copy(1, api.MaxMatch) }); n > 1 {
			t.Errorf("size %d: Copy makes more than its answer: %v", size, n)
		}
		if n := testing.AllocsPerRun(50, func() { r.Last(held) }); n > 1 {
			t.Errorf("size %d: Last makes more than its answer: %v", size, n)
		}
	}
}

// R3

// What is put in is neither changed nor kept, nor is what lies behind its end.
func TestWhatIsPutInStaysTheCallers(t *testing.T) {
	g := rolls(14)
	for _, size := range []int{1, 3, 4, 5, 8, 20} {
		for n := range 12 {
			room := g.text(n + 6)
			was := slices.Clone(room)
			x := made(t, size)
			x.put(t, 1)
			x.put(t, room[:n]...)
			x.put(t, 2, 3)
			x.copied(t, 1, 10)
			if !bytes.Equal(room, was) {
				t.Fatalf("size %d: the bytes handed in are now %v", size, room)
			}
			x.reset()
			x.put(t, room[:n]...)
			if !bytes.Equal(room, was) {
				t.Fatalf("size %d: behind Reset the bytes handed in are now %v", size, room)
			}
			spoil(room)
			x.check(t)
		}
	}
}

// An answer that is written over and appended to is not the ring's.
func TestAnswersAreTheCallers(t *testing.T) {
	g := rolls(15)
	for _, size := range []int{1, 2, 4, 7, 258, 300} {
		for _, ahead := range counts(size) {
			x := made(t, size, append(g.text(ahead), 1)...)
			for _, n := range []int{0, 1, x.held() - 1, x.held()} {
				l, _ := x.Last(n)
				spoil(l)
				x.check(t)
			}
			for _, n := range []int{0, 1, 5, api.MaxMatch} {
				for _, dist := range []int{1, x.held()} {
					for range n {
						x.all = append(x.all, x.all[len(x.all)-dist])
					}
					b, _ := x.Copy(dist, n)
					spoil(b)
					x.check(t)
				}
			}
		}
	}
}

// An answer stays as it is, whatever is done later, and no two share memory.
func TestAnswersStayAsTheyAre(t *testing.T) {
	for _, size := range []int{1, 4, 5, 6, 300} {
		x := made(t, size, 1, 2, 3, 4, 5, 6)
		a, _ := x.Last(x.held())
		b, _ := x.Last(x.held())
		c, _ := x.Copy(1, 4)
		d, _ := x.Copy(x.Held(), 4)
		answers := [][]byte{a, b, c, d}
		var was [][]byte
		for _, p := range answers {
			was = append(was, slices.Clone(p[:cap(p)]))
		}
		x.Put(9, 9, 9, 9, 9, 9, 9, 9)
		x.Copy(1, api.MaxMatch)
		x.Reset()
		x.Put(8, 7)
		for i, p := range answers {
			if !bytes.Equal(p[:cap(p)], was[i]) {
				t.Errorf("size %d: answer %d has become %v", size, i, p)
			}
		}
		spoil(a)
		if !bytes.Equal(b, was[1]) || !bytes.Equal(c, was[2][:4]) || !bytes.Equal(d, was[3][:4]) {
			t.Errorf("size %d: two answers share memory", size)
		}
	}
}

// R4

func TestRingsStandAlone(t *testing.T) {
	x, y := made(t, 4, 1, 2, 3), made(t, 4, 9, 8, 7, 6, 5)
	x.copied(t, 2, 7)
	y.check(t)
	y.reset()
	x.check(t)
	y.put(t, 3)
	x.check(t)
	y.check(t)
}

// R1, R5

func TestRingsThatNoCallMade(t *testing.T) {
	for _, r := range []*ring.Ring{nil, {}, new(ring.Ring)} {
		for range 2 {
			if a, b := r.Put(), r.Put(1, 2, 3); a != api.ErrMade || b != api.ErrMade {
				t.Errorf("Put: %d, %d", a, b)
			}
			for _, dist := range []int{math.MinInt, -1, 0, 1, 2, math.MaxInt} {
				if b, err := r.At(dist); b != 0 || err != api.ErrMade {
					t.Errorf("At(%d): %d, %d", dist, b, err)
				}
				if l, err := r.Last(dist); len(l) != 0 || err != api.ErrMade {
					t.Errorf("Last(%d): %v, %d", dist, l, err)
				}
				for _, n := range []int{math.MinInt, -1, 0, 1, 258, 259, math.MaxInt} {
					if b, err := r.Copy(dist, n); len(b) != 0 || err != api.ErrMade {
						t.Errorf("Copy(%d, %d): %v, %d", dist, n, b, err)
					}
				}
			}
			if r.Held() != 0 || r.Total() != 0 || r.Room() != 0 {
				t.Errorf("Held %d, Total %d, Room %d", r.Held(), r.Total(), r.Room())
			}
			r.Reset()
		}
	}
}
