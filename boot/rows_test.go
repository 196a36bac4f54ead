package boot_test

import (
	"bytes"
	"fmt"
	"math"
	"slices"
	"testing"

	"sapper/api"
	"sapper/boot"
	"sapper/flash"
)

const (
	topSeq     = 1152921504606846976 // 2^60
	topVersion = 2147483647          // 2^31 - 1
	topSize    = 16777216            // MaxImage
	topTries   = 15                  // MaxTries
)

// image: one with so much in it, in the order of its fields.
func image(slot, version, size int, sum uint32) api.Image {
	return api.Image{Slot: slot, Version: version, Size: size, Sum: sum}
}

// plain: a record with nothing on trial; and one with an image that is.
func plain() api.Record { return api.Record{Seq: 1, Good: image(0, 1, 3, 7)} }
func trial() api.Record {
	return api.Record{Seq: 2, Good: image(0, 1, 3, 7), Next: image(1, 2, 5, 9), Trial: 3}
}

// expect: an error.
func expect(t *testing.T, name string, err, want api.Errno) {
	t.Helper()
	if err != want {
		t.Errorf("%s: %v, not %v", name, err, want)
	}
}

// expectRecord: a record and an error.
func expectRecord(t *testing.T, name string, r api.Record, err api.Errno, want api.Record, wantErr api.Errno) {
	t.Helper()
	if r != want || err != wantErr {
		t.Errorf("%s: %v, %v, not %v, %v", name, r, err, want, wantErr)
	}
}

// ok: calls that must answer OK.
func ok(t *testing.T, l ...api.Errno) {
	t.Helper()
	for i, err := range l {
		if err != api.OK {
			t.Fatalf("call %d: %v", i, err)
		}
	}
}

// mustFlash: a flash of pages of so many bytes, with nothing in it.
func mustFlash(t *testing.T, size, pages int) *flash.Flash {
	t.Helper()
	f, err := flash.New(api.Shape{Page: size, Pages: pages}, 0, [2][]byte{})
	if f == nil || err != api.OK {
		t.Fatalf("flash.New(%d, %d): %v", size, pages, err)
	}
	return f
}

// mustEncode: the bytes of a record that may be.
func mustEncode(t *testing.T, r api.Record) []byte {
	t.Helper()
	b, err := boot.Encode(r)
	if err != api.OK {
		t.Fatalf("Encode(%v): %v", r, err)
	}
	return b
}

// put: a record page gets these bytes.
func put(t *testing.T, f *flash.Flash, page int, b []byte) {
	t.Helper()
	ok(t, f.Erase(2, page), f.Program(2, page, b))
}

// with: a flash, with these bytes on both record pages; of nil the page is as New leaves it.
func with(t *testing.T, zero, one []byte) *flash.Flash {
	t.Helper()
	f := mustFlash(t, 64, 1)
	for page, b := range [2][]byte{zero, one} {
		if b != nil {
			put(t, f, page, b)
		}
	}
	return f
}

// off: the power goes, and nothing else; one page of a slot is erased on the way.
func off(t *testing.T, f *flash.Flash) {
	t.Helper()
	ok(t, f.Cut(1, nil))
	expect(t, "Erase", f.Erase(0, 0), api.ErrFlashPower)
}

// pageOf: the bytes of a record page.
func pageOf(t *testing.T, f *flash.Flash, page int) []byte {
	t.Helper()
	b, err := f.Read(2, page*f.Shape().Page, f.Shape().Page)
	ok(t, err)
	return b
}

// filled: bytes, and 255 behind them, so many in all.
func filled(b []byte, size int) []byte {
	out := slices.Clone(b)
	for len(out) < size {
		out = append(out, 255)
	}
	return out
}

// opsOf: operations of the area of records, two numbers each: the kind and the page.
func opsOf(l ...int) []api.Op {
	var out []api.Op
	for part := range slices.Chunk(l, 2) {
		out = append(out, api.Op{Kind: api.OpKind(part[0]), Area: 2, Page: part[1]})
	}
	return out
}

// toldOf: all that a flash tells; without power no bytes are among it.
func toldOf(f *flash.Flash) string {
	out := fmt.Sprint(f.Shape(), f.Active(), f.On(), f.Log())
	for area, n := range []int{f.Shape().Pages, f.Shape().Pages, 2} {
		for at := range n {
			wear, err := f.Wear(area, at)
			out += fmt.Sprint(" ", wear, err)
		}
	}
	b, err := f.Save()
	return out + fmt.Sprintf(" %x %v", b, err)
}

// rolls: numbers that follow no pattern and are the same at each run.
type rolls uint64

// below: a number from 0 on, below n.
func (r *rolls) below(n int) int {
	*r = *r*6364136223846793005 + 1442695040888963407
	return int(uint64(*r>>33) % uint64(n))
}

// of: one of these.
func (r *rolls) of(l ...int) int { return l[r.below(len(l))] }

// data: n bytes.
func (r *rolls) data(n int) []byte {
	out := make([]byte, n)
	for i := range out {
		out[i] = byte(r.below(256))
	}
	return out
}

// sum: any number of 32 bits, at the ends often.
func (r *rolls) sum() uint32 {
	return uint32(r.of(0, 1, math.MaxUint32, r.below(1<<30)<<2+r.below(4)))
}

// edge: a number at which something begins or ends, or a little beside it.
func (r *rolls) edge() int {
	at := r.of(0, 1, 2, topTries, 256, topSize, 1<<30, topVersion, 1<<32, 1<<40, topSeq, 1<<61, 1<<62)
	switch r.below(12) {
	case 0:
		return r.of(math.MinInt, math.MinInt+1, math.MaxInt, math.MaxInt-1)
	case 1:
		return -at
	}
	return at + r.of(-1, 0, 0, 1)
}

// good: an image that may be a record's Good.
func (r *rolls) good() api.Image {
	return image(r.below(2), r.of(1, 2, 3, topVersion-1, topVersion, 1+r.below(topVersion)), r.size(), r.sum())
}

// size: that of an image that may be.
func (r *rolls) size() int { return r.of(0, 1, topSize-1, topSize, r.below(topSize+1)) }

// next: an image that may be tried behind a good one.
func (r *rolls) next(good api.Image) api.Image {
	version := r.of(good.Version, good.Version+1, topVersion, good.Version+r.below(topVersion-good.Version+1))
	return image(1-good.Slot, min(version, topVersion), r.size(), r.sum())
}

// record: one that may be.
func (r *rolls) record() api.Record {
	out := api.Record{Seq: r.of(1, 2, 3, topSeq-1, topSeq, 1+r.below(10), 1+r.below(1<<30)<<r.below(30)), Good: r.good()}
	if r.below(3) > 0 {
		out.Next, out.Trial = r.next(out.Good), r.of(0, 1, 2, topTries, r.below(topTries+1))
	}
	return out
}

// places: the fields of a record that are not any number.
func places(r *api.Record) []*int {
	return []*int{&r.Seq, &r.Good.Slot, &r.Good.Version, &r.Good.Size, &r.Next.Slot, &r.Next.Version, &r.Next.Size, &r.Trial}
}

// turned: a record with one of its fields turned, so that it may be or not.
func (r *rolls) turned(x api.Record) api.Record {
	l := places(&x)
	at := r.below(len(l) + 2)
	if at >= len(l) {
		*[]*uint32{&x.Good.Sum, &x.Next.Sum}[at-len(l)] ^= 1 << r.below(32)
		return x
	}
	switch r.below(4) {
	case 0:
		*l[at] += r.of(-1, 1)
	case 1:
		*l[at] = *l[r.below(len(l))]
	default:
		*l[at] = r.edge()
	}
	return x
}

// any: a record that may be, or one with a field turned, or two.
func (r *rolls) any() api.Record {
	x := r.record()
	if r.below(2) == 0 {
		x = r.turned(x)
	}
	if r.below(6) == 0 {
		x = r.turned(x)
	}
	return x
}

// front: what a record page may begin with: a record, one that may not be with a right sum, a spoilt one, a beginning of one, drawn bytes, none.
func (r *rolls) front(seq int) []byte {
	x := r.record()
	x.Seq = seq
	b := modelEncode(x)
	switch r.below(10) {
	case 0:
		return modelEncode(r.turned(x))
	case 1:
		b[r.below(len(b))] ^= 1 << r.below(8)
	case 2:
		return b[:r.below(len(b))]
	case 3:
		return r.data(r.below(65))
	case 4:
		return nil
	case 5:
		return append(b, r.data(r.below(22))...)
	}
	return b
}

// lent: bytes with room behind them that holds others; and whether all of it is as it was.
func lent(b []byte) ([]byte, func() bool) {
	all := append(slices.Clone(b), 77, 88, 99)
	was := slices.Clone(all)
	return all[:len(b):len(all)], func() bool { return bytes.Equal(all, was) }
}

// spoil: all of a list, and the room behind it, is written over.
func spoil[T any](l []T, v T) {
	for i := range l[:cap(l)] {
		l[:cap(l)][i] = v
	}
}
