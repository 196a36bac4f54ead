package apply_test

import (
	"bytes"
	"fmt"
	"hash/crc32"
	"slices"
	"testing"

	"sapper/api"
	"sapper/apply"
	"sapper/flash"
)

// shape: of a few bytes and pages.
func shape(size, pages int) api.Shape { return api.Shape{Page: size, Pages: pages} }

// mustFlash: a flash that there must be.
func mustFlash(t *testing.T, s api.Shape, active int, slots ...[]byte) *flash.Flash {
	t.Helper()
	var both [2][]byte
	copy(both[:], slots)
	f, err := flash.New(s, active, both)
	if f == nil || err != api.OK {
		t.Fatalf("flash.New(%v, %d): %v", s, active, err)
	}
	return f
}

// mustNew: an applier that there must be.
func mustNew(t *testing.T, f *flash.Flash, window, look int) *apply.Applier {
	t.Helper()
	a, err := apply.New(f, window, look)
	if a == nil || err != api.OK {
		t.Fatalf("New(%d, %d): %v", window, look, err)
	}
	return a
}

// small: the flash of the chapter's examples, and an applier over it.
func small(t *testing.T) (*flash.Flash, *apply.Applier) {
	t.Helper()
	f := mustFlash(t, shape(64, 2), 0, []byte("old"))
	return f, mustNew(t, f, 64, 100)
}

// away: the power goes, by an operation on the records.
func away(t *testing.T, f *flash.Flash) {
	t.Helper()
	ok(t, f.Cut(1, nil))
	expect(t, "Erase", f.Erase(2, 0), api.ErrFlashPower)
}

// ok: calls that must answer OK.
func ok(t *testing.T, l ...api.Errno) {
	t.Helper()
	for i, err := range l {
		if err != api.OK {
			t.Fatalf("call %d: %v", i, err)
		}
	}
}

// expect: an error.
func expect(t *testing.T, name string, err, want api.Errno) {
	t.Helper()
	if err != want {
		t.Errorf("%s: %v, not %v", name, err, want)
	}
}

// expectFailed: an applier that has answered an error: it answers it again and again, whatever comes, and so many bytes stay made.
func expectFailed(t *testing.T, name string, a applier, want api.Errno, made int) {
	t.Helper()
	h, told := a.Head()
	for range 2 {
		for _, b := range [][]byte{nil, {}, {0}, []byte("SAPR"), make([]byte, 500)} {
			expect(t, name+": a later Feed", a.Feed(b), want)
		}
		expect(t, name+": a later Finish", a.Finish(), want)
		expect(t, name+": Err", a.Err(), want)
	}
	if a.Committed() || a.Made() != made {
		t.Errorf("%s: Committed %v, Made %d, not %d", name, a.Committed(), a.Made(), made)
	}
	if again, still := a.Head(); again != h || still != told {
		t.Errorf("%s: Head %v, %v has become %v, %v", name, h, told, again, still)
	}
}

// expectRead: bytes of a flash, from a slot's first one on.
func expectRead(t *testing.T, f *flash.Flash, slot int, want []byte) {
	t.Helper()
	if b, err := f.Read(slot, 0, len(want)); !bytes.Equal(b, want) || err != api.OK {
		t.Errorf("slot %d: % x, %v, not % x", slot, b, err, want)
	}
}

// slotOf: all bytes of a slot.
func slotOf(t *testing.T, f *flash.Flash, slot int) []byte {
	t.Helper()
	b, err := f.Read(slot, 0, f.Shape().Page*f.Shape().Pages)
	ok(t, err)
	return b
}

// inOrder: the first n operations of a writer into a slot.
func inOrder(slot, n int) []api.Op {
	var out []api.Op
	for i := range n {
		kind := api.OpErase
		if i%2 == 1 {
			kind = api.OpProgram
		}
		out = append(out, api.Op{Kind: kind, Area: slot, Page: i / 2})
	}
	return out
}

// filled: bytes, and 255 behind them, so many in all.
func filled(b []byte, size int) []byte {
	out := slices.Clone(b)
	for len(out) < size {
		out = append(out, 255)
	}
	return out
}

// toldOf: all that a flash tells; without power no bytes are among it.
func toldOf(f *flash.Flash) string {
	out := fmt.Sprint(f.Shape(), f.Active(), f.On(), f.Ops(), f.Log())
	for area, n := range []int{f.Shape().Pages, f.Shape().Pages, 2} {
		for at := range n {
			wear, err := f.Wear(area, at)
			out += fmt.Sprint(" ", wear, err)
		}
	}
	b, err := f.Save()
	return out + fmt.Sprintf(" %x %v", b, err)
}

// answersOf: all that an applier tells.
func answersOf(a applier) string {
	h, told := a.Head()
	return fmt.Sprint(a.Committed(), int(a.Err()), h, told, a.Made(), a.Held(), a.Bound())
}

// pair: an applier and the model that it is held against, each over a flash of its own, which are the same at first.
type pair struct {
	t    *testing.T
	f, g *flash.Flash
	a    *apply.Applier
	m    *model
}

// pairOf: over two flashes.
func pairOf(t *testing.T, f, g *flash.Flash, window, look int) pair {
	t.Helper()
	m, err := modelNew(g, window, look)
	ok(t, err)
	x := pair{t, f, g, mustNew(t, f, window, look), m}
	x.hold("New")
	return x
}

// hold: what is told, and the logs; Held is Bound.
func (x pair) hold(name string) {
	x.t.Helper()
	if got, want := answersOf(x.a), answersOf(x.m); got != want {
		x.t.Fatalf("behind %s: %s, not %s", name, got, want)
	}
	if x.a.Held() != x.a.Bound() {
		x.t.Fatalf("behind %s: Held %d, Bound %d", name, x.a.Held(), x.a.Bound())
	}
	if x.f.On() != x.g.On() || !slices.Equal(x.f.Log(), x.g.Log()) {
		x.t.Fatalf("behind %s: %v, %v, not %v, %v", name, x.f.On(), x.f.Log(), x.g.On(), x.g.Log())
	}
}

// feed: of both; their answer.
func (x pair) feed(b []byte) api.Errno {
	x.t.Helper()
	got, want := x.a.Feed(b), x.m.Feed(b)
	if got != want {
		x.t.Fatalf("Feed(% x): %v, not %v", b, got, want)
	}
	x.hold("Feed")
	return got
}

// finish: of both; their answer.
func (x pair) finish() api.Errno {
	x.t.Helper()
	got, want := x.a.Finish(), x.m.Finish()
	if got != want {
		x.t.Fatalf("Finish: %v, not %v", got, want)
	}
	x.hold("Finish")
	return got
}

// whole: with power both flashes are the same in all that they tell.
func (x pair) whole() {
	x.t.Helper()
	x.f.Power()
	x.g.Power()
	if toldOf(x.f) != toldOf(x.g) {
		x.t.Fatalf("%s, not %s", toldOf(x.f), toldOf(x.g))
	}
}

// trial: a patch for an old image, to be fed into a new applier over a new flash.
type trial struct {
	shape        api.Shape
	active       int
	old          []byte
	window, look int
	patch        []byte
	between      func(f *flash.Flash) // what is done with the flash ahead of the byte that is looked at
}

// start: the flash and the applier.
func (x trial) start(t *testing.T) (*flash.Flash, *apply.Applier) {
	t.Helper()
	var slots [2][]byte
	slots[x.active] = x.old
	f := mustFlash(t, x.shape, x.active, slots[0], slots[1])
	return f, mustNew(t, f, x.window, x.look)
}

// fails: at that byte of the patch, with that error, when so many bytes were made and so many operations done: byte by byte, and in pieces.
func (x trial) fails(t *testing.T, name string, at int, want api.Errno, made, ops int) {
	t.Helper()
	between := func(f *flash.Flash) {
		if x.between != nil {
			x.between(f)
		}
	}
	f, a := x.start(t)
	for i := range at {
		if err := a.Feed(x.patch[i : i+1]); err != api.OK {
			t.Fatalf("%s: byte %d of %d: %v", name, i, len(x.patch), err)
		}
	}
	between(f)
	_, told := a.Head()
	expect(t, name+", byte by byte", a.Feed(x.patch[at:at+1]), want)
	expectFailed(t, name+", byte by byte", a, want, made)
	log := f.Log()
	if _, still := a.Head(); still != told {
		t.Errorf("%s: Head %v, then %v", name, told, still)
	}
	if len(log) != ops {
		t.Errorf("%s: %v", name, log)
	}
	f, a = x.start(t)
	ok(t, a.Feed(x.patch[:at]))
	between(f)
	expect(t, name+", in two pieces", a.Feed(x.patch[at:]), want)
	expectFailed(t, name+", in two pieces", a, want, made)
	if !slices.Equal(f.Log(), log) {
		t.Errorf("%s, in two pieces: %v, not %v", name, f.Log(), log)
	}
	if x.between != nil {
		return
	}
	f, a = x.start(t)
	expect(t, name+", in one", a.Feed(x.patch), want)
	expectFailed(t, name+", in one", a, want, made)
	if !slices.Equal(f.Log(), log) {
		t.Errorf("%s, in one: %v, not %v", name, f.Log(), log)
	}
}

// commits: byte by byte, and in one; to that image.
func (x trial) commits(t *testing.T, name string, next []byte) {
	t.Helper()
	for _, step := range []int{1, max(1, len(x.patch))} {
		f, a := x.start(t)
		for part := range slices.Chunk(x.patch, step) {
			if err := a.Feed(part); err != api.OK {
				t.Fatalf("%s: %v", name, err)
			}
		}
		if err := a.Finish(); err != api.OK || !a.Committed() || a.Err() != api.OK || a.Made() != len(next) {
			t.Fatalf("%s: Finish %v, Committed %v, Err %v, Made %d", name, err, a.Committed(), a.Err(), a.Made())
		}
		size := x.shape.Page
		whole := (len(next) + size - 1) / size
		expectRead(t, f, 1-x.active, filled(next, whole*size))
		if !slices.Equal(f.Log(), inOrder(1-x.active, 2*whole)) {
			t.Errorf("%s: %v", name, f.Log())
		}
		expectRead(t, f, x.active, filled(x.old, size*x.shape.Pages))
	}
}

// sumOf: chapter 2.
func sumOf(b []byte) uint32 { return crc32.ChecksumIEEE(b) }

// lent: bytes with room behind them that holds others; and whether all of it is as it was.
func lent(b []byte) ([]byte, func() bool) {
	all := append(slices.Clone(b), 77, 88, 99)
	was := slices.Clone(all)
	return all[:len(b):len(all)], func() bool { return bytes.Equal(all, was) }
}

// spoil: all of a list, and the room behind it, is written over.
func spoil(l []byte, v byte) {
	for i := range l[:cap(l)] {
		l[:cap(l)][i] = v
	}
}
