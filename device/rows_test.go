package device_test

import (
	"bytes"
	"fmt"
	"hash/crc32"
	"slices"
	"testing"

	"sapper/api"
	"sapper/boot"
	"sapper/device"
	"sapper/flash"
	"sapper/maker"
)

const (
	topSeq     = 1152921504606846976 // 2^60
	topVersion = 2147483647          // 2^31 - 1
	topTries   = 15                  // MaxTries
)

// devicer is what a device and the model of one can do.
type devicer interface {
	Start() (api.Image, api.Errno)
	Begin(window, look int) api.Errno
	Feed(b []byte) api.Errno
	Finish(version, tries int) (api.Record, api.Errno)
	Confirm() (api.Record, api.Errno)
	Cut(n int, torn []byte) api.Errno
	Power()
	On() bool
	Running() (api.Image, bool)
	Updating() (api.Head, bool)
	Record() (api.Record, api.Errno)
	Image(i api.Image) ([]byte, api.Errno)
	Log() []api.Op
	Held() int
	Save() ([]byte, api.Errno)
}

// shape: of a few bytes and pages.
func shape(size, pages int) api.Shape { return api.Shape{Page: size, Pages: pages} }

// imageOf: the image that bytes at a slot's front are.
func imageOf(slot, version int, b []byte) api.Image {
	return api.Image{Slot: slot, Version: version, Size: len(b), Sum: crc32.ChecksumIEEE(b)}
}

// The images of the chapter's examples.
var (
	oldBytes, newBytes = []byte("old"), []byte("new!")
	oldImage, newImage = imageOf(0, 1, oldBytes), imageOf(1, 2, newBytes)
)

// usual: the options of the chapter's examples.
func usual() api.Options {
	return api.Options{Window: 64, Press: api.Press{Look: api.Look{Window: 100, Chain: 10}, Block: 50}}
}

// ok: calls that must answer OK.
func ok(t *testing.T, l ...api.Errno) {
	t.Helper()
	for i, err := range l {
		if err != api.OK {
			t.Fatalf("call %d: %v", i, err)
		}
	}
}

// expect: an error.
func expect(t *testing.T, name string, err, want api.Errno) {
	t.Helper()
	if err != want {
		t.Errorf("%s: %v, not %v", name, err, want)
	}
}

// expectSame: a value that can be told.
func expectSame(t *testing.T, name string, got, want any) {
	t.Helper()
	if fmt.Sprint(got) != fmt.Sprint(want) {
		t.Errorf("%s: %v, not %v", name, got, want)
	}
}

// expectStart: what Start answers.
func expectStart(t *testing.T, name string, d devicer, want api.Image, wantErr api.Errno) {
	t.Helper()
	if i, err := d.Start(); i != want || err != wantErr {
		t.Errorf("%s: Start: %v, %v, not %v, %v", name, i, err, want, wantErr)
	}
}

// expectRecord: the newest record, or why there is none.
func expectRecord(t *testing.T, name string, d devicer, want api.Record, wantErr api.Errno) {
	t.Helper()
	if r, err := d.Record(); r != want || err != wantErr {
		t.Errorf("%s: Record: %v, %v, not %v, %v", name, r, err, want, wantErr)
	}
}

// expectDoing: the image that runs, or none, and whether an update is under way.
func expectDoing(t *testing.T, name string, d devicer, want api.Image, updates bool) {
	t.Helper()
	if i, runs := d.Running(); i != want || runs != (want != api.Image{}) {
		t.Errorf("%s: Running: %v, %v, not %v", name, i, runs, want)
	}
	if _, is := d.Updating(); is != updates || is != (d.Held() > 0) {
		t.Errorf("%s: Updating: %v, not %v; Held %d", name, is, updates, d.Held())
	}
}

// expectImage: the bytes of an image.
func expectImage(t *testing.T, name string, d devicer, i api.Image, want []byte) {
	t.Helper()
	if b, err := d.Image(i); !bytes.Equal(b, want) || err != api.OK {
		t.Errorf("%s: Image(%v): % x, %v, not % x", name, i, b, err, want)
	}
}

// opsOf: operations, three numbers each: the kind, the area and the page.
func opsOf(l ...int) []api.Op {
	var out []api.Op
	for part := range slices.Chunk(l, 3) {
		out = append(out, api.Op{Kind: api.OpKind(part[0]), Area: part[1], Page: part[2]})
	}
	return out
}

// mustNew: a device that there must be.
func mustNew(t *testing.T, s api.Shape, b []byte, version int) *device.Device {
	t.Helper()
	d, err := device.New(s, b, version)
	if d == nil || err != api.OK {
		t.Fatalf("New(%v, %d bytes, %d): %v", s, len(b), version, err)
	}
	return d
}

// mustLoad: a device that there must be.
func mustLoad(t *testing.T, b []byte) *device.Device {
	t.Helper()
	d, err := device.Load(b)
	if d == nil || err != api.OK {
		t.Fatalf("Load(%x): %v", b, err)
	}
	return d
}

// mustSave: a device's bytes.
func mustSave(t *testing.T, d devicer) []byte {
	t.Helper()
	b, err := d.Save()
	ok(t, err)
	return b
}

// mustGenerate: a patch that there must be.
func mustGenerate(t *testing.T, old, next []byte, o api.Options) []byte {
	t.Helper()
	p, err := maker.Generate(old, next, o)
	ok(t, err)
	return p
}

// small: the device of the chapter's examples, which does not run yet.
func small(t *testing.T) *device.Device {
	t.Helper()
	return mustNew(t, shape(64, 2), oldBytes, 1)
}

// patch: that of the chapter's examples.
func patch(t *testing.T) []byte {
	t.Helper()
	return mustGenerate(t, oldBytes, newBytes, usual())
}

// updating: the device of the examples, with an update under way whose patch was fed.
func updating(t *testing.T) *device.Device {
	t.Helper()
	d := small(t)
	expectStart(t, "good", d, oldImage, api.OK)
	ok(t, d.Begin(64, 100), d.Feed(patch(t)))
	return d
}

// offered: the device of the examples, whose good image runs and whose new one is offered for so many starts.
func offered(t *testing.T, tries int) *device.Device {
	t.Helper()
	d := updating(t)
	r, err := d.Finish(2, tries)
	if want := (api.Record{Seq: 2, Good: oldImage, Next: newImage, Trial: tries}); r != want || err != api.OK {
		t.Fatalf("Finish: %v, %v, not %v", r, err, want)
	}
	return d
}

// bare is a device as it lies there: what its flash has.
type bare struct {
	shape  api.Shape
	active int
	slots  [2][]byte
	pages  [2][]byte // of the records; nil: as New leaves it
	limit  int       // how often a page may be erased; 0: as often as one likes
}

// flash: that of it.
func (x bare) flash(t *testing.T) *flash.Flash {
	t.Helper()
	f, err := flash.New(x.shape, x.active, x.slots)
	ok(t, err)
	for page, b := range x.pages {
		if b != nil {
			ok(t, f.Erase(2, page), f.Program(2, page, b))
		}
	}
	ok(t, f.Limit(x.limit))
	return f
}

// device: of it.
func (x bare) device(t *testing.T) *device.Device {
	t.Helper()
	b, err := x.flash(t).Save()
	ok(t, err)
	return mustLoad(t, b)
}

// bytesOf: a record's.
func bytesOf(t *testing.T, r api.Record) []byte {
	t.Helper()
	b, err := boot.Encode(r)
	ok(t, err)
	return b
}

// flashOf: a copy of a device's flash, as it lies there.
func flashOf(t *testing.T, d devicer) *flash.Flash {
	t.Helper()
	f, err := flash.Load(mustSave(t, d))
	ok(t, err)
	return f
}

// toldOf: all that a device tells; without power less is among it.
func toldOf(d devicer) string {
	i, runs := d.Running()
	h, updates := d.Updating()
	r, err := d.Record()
	b, saveErr := d.Save()
	out := fmt.Sprint(d.On(), i, runs, h, updates, d.Held(), r, int(err), d.Log())
	for _, i := range []api.Image{r.Good, r.Next} {
		b, err := d.Image(i)
		out += fmt.Sprintf(" %x %d", b, int(err))
	}
	return out + fmt.Sprintf(" %x %d", b, int(saveErr))
}

// lent: bytes with room behind them that holds others; and whether all of it is as it was.
func lent(b []byte) ([]byte, func() bool) {
	all := append(slices.Clone(b), 77, 88, 99)
	was := slices.Clone(all)
	return all[:len(b):len(all)], func() bool { return bytes.Equal(all, was) }
}

// spoil: all of a list, and the room behind it, is written over.
func spoil[T any](l []T, v T) {
	for i := range l[:cap(l)] {
		l[:cap(l)][i] = v
	}
}
