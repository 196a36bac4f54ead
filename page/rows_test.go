package page_test

import (
	"bytes"
	"fmt"
	"slices"
	"testing"

	"sapper/api"
	"sapper/flash"
	"sapper/page"
)

// shape: of a few bytes and pages.
func shape(size, pages int) api.Shape { return api.Shape{Page: size, Pages: pages} }

// mustFlash: a flash that there must be.
func mustFlash(t *testing.T, s api.Shape, active int, slots ...[]byte) *flash.Flash {
	t.Helper()
	var both [2][]byte
	copy(both[:], slots)
	f, err := flash.New(s, active, both)
	if f == nil || err != api.OK {
		t.Fatalf("flash.New(%v, %d): %v", s, active, err)
	}
	return f
}

// mustNew: a writer that there must be.
func mustNew(t *testing.T, f *flash.Flash) *page.Writer {
	t.Helper()
	w, err := page.New(f)
	if w == nil || err != api.OK {
		t.Fatalf("New: %v", err)
	}
	return w
}

// small: the flash of the chapter's examples, and a writer over it.
func small(t *testing.T) (*flash.Flash, *page.Writer) {
	t.Helper()
	f := mustFlash(t, shape(64, 2), 0)
	return f, mustNew(t, f)
}

// ok: calls that must answer OK.
func ok(t *testing.T, l ...api.Errno) {
	t.Helper()
	for i, err := range l {
		if err != api.OK {
			t.Fatalf("call %d: %v", i, err)
		}
	}
}

// expect: an error.
func expect(t *testing.T, name string, err, want api.Errno) {
	t.Helper()
	if err != want {
		t.Errorf("%s: %v, not %v", name, err, want)
	}
}

// expectTold: what Written and Pages tell.
func expectTold(t *testing.T, w writer, written, pages int) {
	t.Helper()
	if w.Written() != written || w.Pages() != pages {
		t.Errorf("Written %d, Pages %d, not %d, %d", w.Written(), w.Pages(), written, pages)
	}
}

// expectLog: what was done, three numbers each: the kind, the area, the page.
func expectLog(t *testing.T, f *flash.Flash, l ...int) {
	t.Helper()
	var want []api.Op
	for part := range slices.Chunk(l, 3) {
		want = append(want, api.Op{Kind: api.OpKind(part[0]), Area: part[1], Page: part[2]})
	}
	if got := f.Log(); !slices.Equal(got, want) {
		t.Errorf("Log: %v, not %v", got, want)
	}
}

// expectRead: bytes of a flash.
func expectRead(t *testing.T, f *flash.Flash, area, at int, want []byte) {
	t.Helper()
	if b, err := f.Read(area, at, len(want)); !bytes.Equal(b, want) || err != api.OK {
		t.Errorf("Read(%d, %d, %d) = % x, %v, not % x", area, at, len(want), b, err, want)
	}
}

// inOrder: the first n operations of a writer into a slot, as P22.7 has them.
func inOrder(slot, n int) []api.Op {
	var out []api.Op
	for i := range n {
		kind := api.OpErase
		if i%2 == 1 {
			kind = api.OpProgram
		}
		out = append(out, api.Op{Kind: kind, Area: slot, Page: i / 2})
	}
	return out
}

// filled: bytes, and 255 behind them, so many in all.
func filled(b []byte, size int) []byte {
	out := slices.Clone(b)
	for len(out) < size {
		out = append(out, 255)
	}
	return out
}

// toldOf: all that a flash tells; without power no bytes are among it.
func toldOf(f *flash.Flash) string {
	out := fmt.Sprint(f.Shape(), f.Active(), f.On(), f.Ops(), f.Log())
	for area, n := range []int{f.Shape().Pages, f.Shape().Pages, 2} {
		for at := range n {
			wear, err := f.Wear(area, at)
			out += fmt.Sprint(" ", wear, err)
		}
	}
	b, err := f.Save()
	return out + fmt.Sprintf(" %x %v", b, err)
}

// rolls: numbers that follow no pattern and are the same at each run.
type rolls uint64

// below: a number from 0 on, below n.
func (r *rolls) below(n int) int {
	*r = *r*6364136223846793005 + 1442695040888963407
	return int(uint64(*r>>33) % uint64(n))
}

// of: one of these.
func (r *rolls) of(l ...int) int { return l[r.below(len(l))] }

// data: n bytes.
func (r *rolls) data(n int) []byte {
	out := make([]byte, n)
	for i := range out {
		out[i] = byte(r.below(256))
	}
	return out
}

// shape: one of a few small pages.
func (r *rolls) shape() api.Shape { return shape(r.of(64, 64, 65, 100), r.of(1, 2, 3, 4, 7)) }

// setup: a small flash's shape, its active slot and what its slots hold.
func (r *rolls) setup() (api.Shape, int, [2][]byte) {
	s := r.shape()
	return s, r.below(2), [2][]byte{r.data(r.below(s.Page*s.Pages + 1)), r.data(r.below(s.Page*s.Pages + 1))}
}

// piece: bytes for a Write, at the edges of a page and of what is left often, and seldom more than that.
func (r *rolls) piece(s api.Shape, written int) []byte {
	left := s.Page*s.Pages - written
	n := r.of(0, 1, 2, s.Page-1, s.Page, s.Page+1, 2*s.Page, s.Page-written%s.Page, r.below(s.Page), r.below(s.Page), r.below(3*s.Page), left)
	if r.below(10) == 0 {
		return r.data(left + 1 + r.below(s.Page))
	}
	return r.data(min(n, left))
}

// pieces: bytes cut into drawn pieces, empty ones among them.
func (r *rolls) pieces(b []byte) [][]byte {
	var out [][]byte
	size := r.of(1, 2, 10, 64, 70, 200, 500)
	for len(b) > 0 {
		n := min(len(b), r.below(size+1))
		out = append(out, b[:n])
		b = b[n:]
	}
	for range r.below(4) {
		out = slices.Insert(out, r.below(len(out)+1), []byte{})
	}
	return out
}

// call: one of a flash's, and its answer as text.
type call struct {
	kind string
	do   func(f *flash.Flash) string
}

// apart: a drawn call of a flash that no writer into the slot hears of.
func (r *rolls) apart(s api.Shape, slot int) call {
	area := r.of(1-slot, 2)
	at, b := r.below(s.Pages), r.data(r.below(s.Page+1))
	if area == 2 {
		at = r.below(2)
	}
	switch r.below(5) {
	case 0:
		return call{"Turn", func(f *flash.Flash) string { return fmt.Sprint(f.Turn()) }}
	case 1, 2:
		return call{"Erase", func(f *flash.Flash) string { return fmt.Sprint(f.Erase(area, at)) }}
	case 3:
		return call{"Program", func(f *flash.Flash) string { return fmt.Sprint(f.Program(area, at, b)) }}
	}
	return call{"Read", func(f *flash.Flash) string { return fmt.Sprint(f.Read(slot, 0, s.Page)) }}
}

// between: a drawn call of a flash: also one by which a writer may fail, or that comes to the writer's own pages.
func (r *rolls) between(s api.Shape) call {
	n, limit, at, b := r.of(0, 1, 1, 2, 3, 4, 5, 8), r.of(0, 0, 1, 1, 2, 3), r.below(s.Pages), r.data(r.below(s.Page+1))
	switch r.below(10) {
	case 0, 1:
		return call{"Cut", func(f *flash.Flash) string { return fmt.Sprint(f.Cut(n, b)) }}
	case 2, 3:
		return call{"Power", func(f *flash.Flash) string {
			f.Power()
			return ""
		}}
	case 4, 5:
		return call{"Limit", func(f *flash.Flash) string { return fmt.Sprint(f.Limit(limit)) }}
	case 6, 7:
		slot := r.below(2)
		return call{"Erase", func(f *flash.Flash) string { return fmt.Sprint(f.Erase(slot, at)) }}
	}
	return r.apart(s, r.below(2))
}

// lent: bytes with room behind them that holds others; and whether all of it is as it was.
func lent(b []byte) ([]byte, func() bool) {
	all := append(slices.Clone(b), 77, 88, 99)
	was := slices.Clone(all)
	return all[:len(b):len(all)], func() bool { return bytes.Equal(all, was) }
}

// spoil: all of a list, and the room behind it, is written over.
func spoil(l []byte, v byte) {
	for i := range l[:cap(l)] {
		l[:cap(l)][i] = v
	}
}
