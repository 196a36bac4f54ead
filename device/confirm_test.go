package device_test

import (
	"bytes"
	"slices"
	"testing"

	"sapper/api"
	"sapper/device"
)

// refusedConfirm: what Confirm answers beside an error that changes nothing.
func refusedConfirm(t *testing.T, name string, d *device.Device, want api.Errno) {
	t.Helper()
	was := toldOf(d)
	if r, err := d.Confirm(); r != (api.Record{}) || err != want {
		t.Errorf("%s: Confirm: %v, %v, not %v", name, r, err, want)
	}
	if toldOf(d) != was {
		t.Errorf("%s: %s has become %s", name, was, toldOf(d))
	}
}

// P26.6, the chapter's example 1: nothing runs, or the good one does, with or without an offer, or an update is under way.
func TestConfirmRefused(t *testing.T) {
	good, off, back := small(t), offered(t, 3), offered(t, 3)
	expectStart(t, "good", good, oldImage, api.OK)
	for _, d := range []*device.Device{off, back} {
		expectStart(t, "trial", d, newImage, api.OK)
		ok(t, d.Cut(1, nil))
		if _, err := d.Confirm(); err != api.ErrFlashPower {
			t.Errorf("cut: %v", err)
		}
	}
	back.Power()
	refusedConfirm(t, "new", small(t), api.ErrDevicePhase)
	refusedConfirm(t, "good", good, api.ErrDevicePhase)
	refusedConfirm(t, "updating", updating(t), api.ErrDevicePhase)
	refusedConfirm(t, "offered", offered(t, 3), api.ErrDevicePhase)
	refusedConfirm(t, "off", off, api.ErrDevicePhase)
	refusedConfirm(t, "back", back, api.ErrDevicePhase)
}

// P26.6, the chapter's example 2: the image on trial is good from then on, and goes on running; there is nothing more to confirm.
func TestConfirm(t *testing.T) {
	for starts := 1; starts <= 3; starts++ {
		d := offered(t, 3)
		for range starts {
			expectStart(t, "trial", d, newImage, api.OK)
		}
		want := api.Record{Seq: 3 + starts, Good: newImage}
		if r, err := d.Confirm(); r != want || err != api.OK {
			t.Errorf("Confirm: %v, %v, not %v", r, err, want)
		}
		expectRecord(t, "confirmed", d, want, api.OK)
		expectDoing(t, "confirmed", d, newImage, false)
		page := (2 + starts) % 2
		if got := d.Log(); !slices.Equal(got[len(got)-2:], opsOf(1, 2, page, 2, 2, page)) {
			t.Errorf("Log: %v", got)
		}
		refusedConfirm(t, "a second one", d, api.ErrDevicePhase)
		for range 5 {
			expectStart(t, "behind it", d, newImage, api.OK)
			expectRecord(t, "behind it", d, want, api.OK)
			refusedConfirm(t, "behind a Start", d, api.ErrDevicePhase)
		}
	}
}

// P26.6: a trial that has no start left, but runs, can be confirmed; of one that was left there is nothing to confirm.
func TestConfirmLast(t *testing.T) {
	d := offered(t, 1)
	expectStart(t, "the last one", d, newImage, api.OK)
	expectRecord(t, "the last one", d, seen(3, 0), api.OK)
	r, err := d.Confirm()
	if want := (api.Record{Seq: 4, Good: newImage}); r != want || err != api.OK {
		t.Errorf("Confirm: %v, %v, not %v", r, err, want)
	}
	d = offered(t, 1)
	expectStart(t, "the last one", d, newImage, api.OK)
	expectStart(t, "left", d, oldImage, api.OK)
	refusedConfirm(t, "left", d, api.ErrDevicePhase)
}

// P26.6, P26.8: the power goes at each operation of the write: ErrFlashPower, none runs; behind Power the image is good just if its whole record stands there.
func TestConfirmCut(t *testing.T) {
	then := bytesOf(t, api.Record{Seq: 4, Good: newImage})
	for n := 1; n <= 2; n++ {
		for _, b := range [][]byte{nil, then[:1], then[:42], then, bytes.Repeat([]byte{255}, 64)} {
			d := offered(t, 3)
			expectStart(t, "trial", d, newImage, api.OK)
			ok(t, d.Cut(n, b))
			if r, err := d.Confirm(); r != (api.Record{}) || err != api.ErrFlashPower {
				t.Errorf("cut: %v, %v", r, err)
			}
			expectDoing(t, "cut", d, api.Image{}, false)
			d.Power()
			expectDoing(t, "power", d, api.Image{}, false)
			if len(b) == 43 {
				expectRecord(t, "whole", d, api.Record{Seq: 4, Good: newImage}, api.OK)
				expectStart(t, "whole", d, newImage, api.OK)
				expectRecord(t, "whole", d, api.Record{Seq: 4, Good: newImage}, api.OK)
			} else {
				expectRecord(t, "torn", d, seen(3, 2), api.OK)
				expectStart(t, "torn", d, newImage, api.OK)
				expectRecord(t, "torn", d, seen(4, 1), api.OK)
			}
		}
	}
}

// P26.6: a worn page, and a Seq that has come to its end: Confirm answers that, and the image goes on running.
func TestConfirmCannotWrite(t *testing.T) {
	x := bare{shape: shape(64, 2), slots: [2][]byte{oldBytes, newBytes}, limit: 1}
	x.pages[0] = bytesOf(t, seen(7, 2))
	d := x.device(t)
	expectStart(t, "worn", d, newImage, api.OK)
	for range 2 {
		refusedConfirm(t, "worn", d, api.ErrFlashWorn)
		expectDoing(t, "worn", d, newImage, false)
	}
	x.limit, x.pages[0] = 0, bytesOf(t, seen(topSeq-1, 2))
	d = x.device(t)
	expectStart(t, "the last one", d, newImage, api.OK)
	for range 2 {
		refusedConfirm(t, "the last one", d, api.ErrBootRecord)
		expectDoing(t, "the last one", d, newImage, false)
		expectRecord(t, "the last one", d, seen(topSeq, 1), api.OK)
	}
}
