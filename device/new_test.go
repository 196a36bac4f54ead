package device_test

import (
	"bytes"
	"math"
	"slices"
	"testing"

	"sapper/api"
	"sapper/device"
	"sapper/flash"
)

// P26.1: shapes at their ends; one that may not be is told ahead of an image that is too large, and of a record that may not be.
func TestNewShapes(t *testing.T) {
	for _, s := range []api.Shape{{}, shape(63, 2), shape(64, 0), shape(4097, 2), shape(64, 4097), shape(-64, 2), shape(64, -1), shape(math.MaxInt, math.MaxInt), shape(math.MinInt, math.MinInt)} {
		for _, version := range []int{1, 0, -1, topVersion + 1} {
			for _, b := range [][]byte{nil, oldBytes, make([]byte, 1000)} {
				if d, err := device.New(s, b, version); d != nil || err != api.ErrFlashSetup {
					t.Errorf("New(%v, %d bytes, %d): %v", s, len(b), version, err)
				}
			}
		}
	}
	for _, s := range []api.Shape{shape(64, 1), shape(4096, 1), shape(64, 4096), shape(65, 3)} {
		d := mustNew(t, s, oldBytes, 1)
		if got := flashOf(t, d).Shape(); got != s {
			t.Errorf("%v, not %v", got, s)
		}
		expectStart(t, "any shape", d, oldImage, api.OK)
	}
}

// P26.1: images of no bytes, of one, of a whole slot, and of one byte more, which is told ahead of a record that may not be.
func TestNewImages(t *testing.T) {
	r := rolls(10)
	for _, n := range []int{0, 1, 3, 63, 64, 65, 127, 128} {
		b := r.data(n)
		i := imageOf(0, 5, b)
		d := mustNew(t, shape(64, 2), b, 5)
		expectRecord(t, "new", d, api.Record{Seq: 1, Good: i}, api.OK)
		expectImage(t, "new", d, i, b)
		expectStart(t, "new", d, i, api.OK)
		expectDoing(t, "new", d, i, false)
	}
	for _, n := range []int{129, 130, 1000} {
		for _, version := range []int{1, 0, topVersion + 1} {
			if d, err := device.New(shape(64, 2), make([]byte, n), version); d != nil || err != api.ErrFlashSetup {
				t.Errorf("%d bytes, version %d: %v", n, version, err)
			}
		}
	}
}

// P26.1: versions at their ends: of a record that may not be ErrBootRecord.
func TestNewVersions(t *testing.T) {
	for _, version := range []int{1, 2, topVersion - 1, topVersion} {
		d := mustNew(t, shape(64, 2), oldBytes, version)
		expectRecord(t, "new", d, api.Record{Seq: 1, Good: imageOf(0, version, oldBytes)}, api.OK)
	}
	for _, version := range []int{0, -1, math.MinInt, topVersion + 1, 1 << 32, 1<<32 + 1, math.MaxInt} {
		if d, err := device.New(shape(64, 2), oldBytes, version); d != nil || err != api.ErrBootRecord {
			t.Errorf("version %d: %v", version, err)
		}
	}
}

// P26.1, the chapter's example 1: slot 0 is active and has the image, slot 1 nothing; the record stands on page 0, by the log's two operations; none runs, and no update is under way.
func TestNewLies(t *testing.T) {
	d := small(t)
	if got := d.Log(); !slices.Equal(got, opsOf(1, 2, 0, 2, 2, 0)) {
		t.Errorf("Log: %v", got)
	}
	expectRecord(t, "new", d, api.Record{Seq: 1, Good: oldImage}, api.OK)
	expectDoing(t, "new", d, api.Image{}, false)
	if !d.On() {
		t.Error("without power")
	}
	f := flashOf(t, d)
	none := bytes.Repeat([]byte{255}, 128)
	for area, want := range [][]byte{slices.Concat(oldBytes, none[3:]), none, slices.Concat(bytesOf(t, api.Record{Seq: 1, Good: oldImage}), none[43:])} {
		if b, err := f.Read(area, 0, 128); !bytes.Equal(b, want) || err != api.OK {
			t.Errorf("area %d: % x, %v", area, b, err)
		}
	}
	for area, want := range []int{0, 0, 1} {
		if n, err := f.Wear(area, 0); n != want || err != api.OK {
			t.Errorf("area %d: wear %d, %v", area, n, err)
		}
	}
	if f.Active() != 0 {
		t.Error("slot 1 is active")
	}
	// No cut is planned, and there is no limit.
	expectStart(t, "new", d, oldImage, api.OK)
	ok(t, d.Begin(64, 100), d.Feed(patch(t)))
	for range 30 {
		_, err := d.Finish(2, 1)
		ok(t, err)
		ok(t, d.Begin(64, 100), d.Feed(patch(t)))
	}
}

// R3: the image that was handed in to New is not kept.
func TestNewKeepsNone(t *testing.T) {
	given, same := lent(oldBytes)
	d := mustNew(t, shape(64, 2), given, 1)
	if !same() {
		t.Error("what was handed in has changed")
	}
	spoil(given, 'x')
	expectImage(t, "behind it", d, oldImage, oldBytes)
	expectStart(t, "behind it", d, oldImage, api.OK)
}

// P26.12: Load of no bytes, and of a device's that are not whole, or turned.
func TestLoadOfWrong(t *testing.T) {
	b := mustSave(t, small(t))
	wrong := [][]byte{nil, {}, []byte("FLSH\x01"), append(slices.Clone(b), 0), b[:len(b)-1], b[1:]}
	for i := range b {
		x := slices.Clone(b)
		x[i] ^= 1
		wrong = append(wrong, x, b[:i])
	}
	for _, x := range wrong {
		if d, err := device.Load(x); d != nil || err != api.ErrFlashForm {
			t.Errorf("Load(%x): %v", x, err)
		}
	}
}

// P26.12: a device without any record is one, too: it can't be started, and can be told.
func TestLoadOfBare(t *testing.T) {
	f, err := flash.New(shape(64, 2), 1, [2][]byte{oldBytes, newBytes})
	ok(t, err)
	b, err := f.Save()
	ok(t, err)
	d := mustLoad(t, b)
	expectStart(t, "bare", d, api.Image{}, api.ErrBootNone)
	expectRecord(t, "bare", d, api.Record{}, api.ErrBootNone)
	expectDoing(t, "bare", d, api.Image{}, false)
	expectImage(t, "bare", d, newImage, newBytes)
	expectImage(t, "bare", d, oldImage, oldBytes)
	expect(t, "Begin", d.Begin(64, 100), api.ErrDevicePhase)
	if _, err := d.Confirm(); err != api.ErrDevicePhase {
		t.Errorf("Confirm: %v", err)
	}
	if got := mustSave(t, d); !bytes.Equal(got, b) || len(d.Log()) != 0 {
		t.Errorf("it has changed: % x, %v", got, d.Log())
	}
}
