package flash_test

import (
	"bytes"
	"fmt"
	"math"
	"slices"
	"testing"

	"sapper/api"
	"sapper/flash"
)

// small: the device of the chapter's examples.
func small(t *testing.T) *flash.Flash {
	t.Helper()
	return mustNew(t, api.Shape{Page: 64, Pages: 2}, 0, []byte("old"), nil)
}

// mustNew: a device that there must be.
func mustNew(t *testing.T, s api.Shape, active int, first, second []byte) *flash.Flash {
	t.Helper()
	f, err := flash.New(s, active, [2][]byte{first, second})
	if f == nil || err != api.OK {
		t.Fatalf("New(%v, %d, %d bytes, %d bytes): %v", s, active, len(first), len(second), err)
	}
	return f
}

// mustSave: a device's bytes, that there must be.
func mustSave(t *testing.T, d device) []byte {
	t.Helper()
	b, err := d.Save()
	if err != api.OK {
		t.Fatalf("Save: %v", err)
	}
	return b
}

// mustLoad: the device of bytes, that there must be.
func mustLoad(t *testing.T, b []byte) *flash.Flash {
	t.Helper()
	f, err := flash.Load(b)
	if f == nil || err != api.OK {
		t.Fatalf("Load(% x): %v", b, err)
	}
	return f
}

// ok: calls that must answer OK.
func ok(t *testing.T, l ...api.Errno) {
	t.Helper()
	for i, err := range l {
		if err != api.OK {
			t.Fatalf("call %d: %v", i, err)
		}
	}
}

// expect: an error.
func expect(t *testing.T, name string, err, want api.Errno) {
	t.Helper()
	if err != want {
		t.Errorf("%s: %v, not %v", name, err, want)
	}
}

// expectRead: bytes, written out.
func expectRead(t *testing.T, d device, area, at int, want []byte) {
	t.Helper()
	if b, err := d.Read(area, at, len(want)); !bytes.Equal(b, want) || err != api.OK {
		t.Errorf("Read(%d, %d, %d) = % x, %v, not % x", area, at, len(want), b, err, want)
	}
}

// expectNoRead: an error, and no bytes beside it.
func expectNoRead(t *testing.T, d device, area, at, n int, want api.Errno) {
	t.Helper()
	if b, err := d.Read(area, at, n); b != nil || err != want {
		t.Errorf("Read(%d, %d, %d) = %d bytes, %v, not %v", area, at, n, len(b), err, want)
	}
}

// expectPage: a page's bytes, with 255 behind those that are written out; whether it is erased; its wear.
func expectPage(t *testing.T, d device, area, page int, front []byte, erased bool, wear int) {
	t.Helper()
	size := d.Shape().Page
	expectRead(t, d, area, page*size, filled(front, size))
	if is, err := d.Erased(area, page); is != erased || err != api.OK {
		t.Errorf("Erased(%d, %d): %v, %v", area, page, is, err)
	}
	if n, err := d.Wear(area, page); n != wear || err != api.OK {
		t.Errorf("Wear(%d, %d): %d, %v, not %d", area, page, n, err, wear)
	}
}

// expectLog: what was done, three numbers each: the kind, the area, the page.
func expectLog(t *testing.T, d device, l ...int) {
	t.Helper()
	var want []api.Op
	for part := range slices.Chunk(l, 3) {
		want = append(want, api.Op{Kind: api.OpKind(part[0]), Area: part[1], Page: part[2]})
	}
	if got := d.Log(); !slices.Equal(got, want) || d.Ops() != len(want) {
		t.Errorf("Log: %v, Ops: %d, not %v", got, d.Ops(), want)
	}
}

// pagesOf: how many pages each area has.
func pagesOf(s api.Shape) [3]int { return [3]int{s.Pages, s.Pages, 2} }

// toldOf: all that a device tells without power.
func toldOf(d device) string {
	out := fmt.Sprint(d.Shape(), d.Active(), d.On(), d.Ops(), d.Log())
	for area, n := range pagesOf(d.Shape()) {
		for page := range n {
			wear, err := d.Wear(area, page)
			out += fmt.Sprint(" ", wear, err)
		}
	}
	return out
}

// allOf: all that a device tells, with power all of its pages, too.
func allOf(d device) string {
	out := toldOf(d)
	for area, n := range pagesOf(d.Shape()) {
		b, err := d.Read(area, 0, n*d.Shape().Page)
		out += fmt.Sprintf(" %x %v", b, err)
		for page := range n {
			is, err := d.Erased(area, page)
			out += fmt.Sprint(" ", is, err)
		}
	}
	b, err := d.Save()
	return out + fmt.Sprintf(" %x %v", b, err)
}

// rolls: numbers that follow no pattern and are the same at each run.
type rolls uint64

// below: a number from 0 on, below n.
func (r *rolls) below(n int) int {
	*r = *r*6364136223846793005 + 1442695040888963407
	return int(uint64(*r>>33) % uint64(n))
}

// of: one of these.
func (r *rolls) of(l ...int) int { return l[r.below(len(l))] }

// data: n bytes.
func (r *rolls) data(n int) []byte {
	out := make([]byte, n)
	for i := range out {
		out[i] = byte(r.below(256))
	}
	return out
}

// far: a number that lies outside of nearly all.
func (r *rolls) far() int {
	return r.of(math.MinInt, math.MinInt+1, math.MinInt32, -65, -2, -1, 3, 4, 64, 128, 4096, 4097, 1<<24, 1<<40, 1<<40+1, math.MaxInt32, math.MaxInt-1, math.MaxInt)
}

// near: a number below n, seldom another one.
func (r *rolls) near(n int) int {
	if r.below(25) == 0 {
		return r.far()
	}
	return r.below(n)
}

// piece: bytes for a page of a size, at its edges often, and seldom too many.
func (r *rolls) piece(size int) []byte {
	switch r.below(16) {
	case 0:
		return nil
	case 1:
		return r.data(size)
	case 2:
		return r.data(size + 1 + r.below(3))
	case 3:
		return filled(nil, r.below(size+1))
	}
	return r.data(r.below(size + 1))
}

// shape: one of a few small pages.
func (r *rolls) shape() api.Shape {
	return api.Shape{Page: r.of(64, 64, 65, 100), Pages: r.of(1, 2, 2, 3)}
}

// setup: a small device's shape, its active slot and what its slots hold.
func (r *rolls) setup() (api.Shape, int, [2][]byte) {
	s := r.shape()
	size := s.Page * s.Pages
	var slots [2][]byte
	for i := range slots {
		slots[i] = r.data(r.of(0, 1, s.Page, size-1, size, r.below(size+1), r.below(size+1)))
	}
	return s, r.below(2), slots
}

// flash: a small device, with nothing done to it.
func (r *rolls) flash(t *testing.T) *flash.Flash {
	t.Helper()
	s, active, slots := r.setup()
	return mustNew(t, s, active, slots[0], slots[1])
}

// call: one of a device's, and its answer as text.
type call struct {
	kind string
	text string
	do   func(d device) string
}

// callOf: a call whose text is made of its arguments.
func callOf(kind string, do func(d device) string, args ...any) call {
	return call{kind, fmt.Sprintf("%s%v", kind, args), do}
}

// working: a drawn Erase, Program or Cut of a device of a shape.
func (r *rolls) working(s api.Shape) call {
	area, b := r.near(3), r.piece(s.Page)
	page := r.near(max(2, s.Pages))
	switch r.below(7) {
	case 0, 1, 2:
		return callOf("Erase", func(d device) string { return fmt.Sprint(d.Erase(area, page)) }, area, page)
	case 3, 4, 5:
		return callOf("Program", func(d device) string { return fmt.Sprint(d.Program(area, page, b)) }, area, page, b)
	}
	n := r.of(0, 1, 1, 2, 3, 5, 8, r.far())
	return callOf("Cut", func(d device) string { return fmt.Sprint(d.Cut(n, b)) }, n, b)
}

// asking: a drawn call that tells something of a device of a shape.
func (r *rolls) asking(s api.Shape) call {
	area, page := r.near(3), r.near(max(2, s.Pages))
	size := s.Page * max(2, s.Pages)
	at := r.near(size + 1)
	n := r.near(r.of(1, 10, size-min(max(at, 0), size)+1, size+1))
	switch r.below(5) {
	case 0:
		return callOf("Read", func(d device) string {
			b, err := d.Read(area, at, n)
			return fmt.Sprintf("%x %v", b, err)
		}, area, at, n)
	case 1:
		return callOf("Erased", func(d device) string { return fmt.Sprint(d.Erased(area, page)) }, area, page)
	case 2:
		return callOf("Wear", func(d device) string { return fmt.Sprint(d.Wear(area, page)) }, area, page)
	case 3:
		return callOf("Save", func(d device) string {
			b, err := d.Save()
			return fmt.Sprintf("%x %v", b, err)
		})
	}
	return callOf("told", func(d device) string { return fmt.Sprint(d.Shape(), d.Active(), d.On()) })
}

// call: a drawn one of a device of a shape.
func (r *rolls) call(s api.Shape) call {
	limit := r.of(0, 0, 1, 2, 3, 5, 8, 1<<40, r.far())
	switch r.below(20) {
	case 0, 1:
		return callOf("Power", func(d device) string {
			d.Power()
			return ""
		})
	case 2:
		return callOf("Turn", func(d device) string { return fmt.Sprint(d.Turn()) })
	case 3:
		return callOf("Limit", func(d device) string { return fmt.Sprint(d.Limit(limit)) }, limit)
	case 4, 5, 6, 7, 8:
		return r.asking(s)
	}
	return r.working(s)
}

// both: a call's answers of two devices, which must be the same.
func both(t *testing.T, c call, d, e device) string {
	t.Helper()
	got, want := c.do(d), c.do(e)
	if got != want {
		t.Fatalf("%s: %s, not %s", c.text, got, want)
	}
	return got
}

// worked: a small device behind drawn calls, with power.
func (r *rolls) worked(t *testing.T) *flash.Flash {
	t.Helper()
	f := r.flash(t)
	for range r.below(40) {
		r.call(f.Shape()).do(f)
	}
	f.Power()
	return f
}

// bent: bytes with something that is a little otherwise, at the front often.
func (r *rolls) bent(b []byte) []byte {
	b = slices.Clone(b)
	if len(b) == 0 {
		return b
	}
	at := r.below(len(b))
	if r.below(2) == 0 {
		at = r.below(min(len(b), 12))
	}
	switch r.below(5) {
	case 0:
		b[at] ^= 1 << r.below(8)
	case 1:
		b[at] = byte(r.below(256))
	case 2:
		b = slices.Delete(b, at, at+1)
	case 3:
		b = slices.Insert(b, at, byte(r.below(256)))
	case 4:
		b = b[:at]
	}
	return b
}

// lent: bytes with room behind them that holds others; and whether all of it is as it was.
func lent(b []byte) ([]byte, func() bool) {
	all := append(slices.Clone(b), 77, 88, 99)
	was := slices.Clone(all)
	return all[:len(b):len(all)], func() bool { return bytes.Equal(all, was) }
}

// spoil: all of a list, and the room behind it, is written over, and it is appended to.
func spoil[T any](l []T, v T) {
	for i := range l[:cap(l)] {
		l[:cap(l)][i] = v
	}
	_ = append(l, v)
	_ = append(l[:0], v)
}
