package device_test

import (
	"bytes"
	"testing"

	"sapper/api"
	"sapper/device"
	"sapper/flash"
)

// states: a device in each state.
func states(t *testing.T) map[string]*device.Device {
	t.Helper()
	good, begun, failed, committed, tried, confirmed, left := small(t), small(t), updating(t), updating(t), offered(t, 2), offered(t, 1), offered(t, 1)
	for _, d := range []*device.Device{good, begun} {
		expectStart(t, "good", d, oldImage, api.OK)
	}
	ok(t, begun.Begin(64, 100))
	expect(t, "failed", failed.Feed([]byte("X")), api.ErrApplyForm)
	refusedFinish(t, "committed", committed, 0, 1, api.ErrBootOld)
	for _, d := range []*device.Device{tried, confirmed, left} {
		expectStart(t, "trial", d, newImage, api.OK)
	}
	_, err := confirmed.Confirm()
	ok(t, err)
	expectStart(t, "left", left, oldImage, api.OK)
	back := offered(t, 3)
	ok(t, back.Cut(2, []byte("zz")))
	expectStart(t, "cut", back, api.Image{}, api.ErrFlashPower)
	back.Power()
	return map[string]*device.Device{"new": small(t), "good": good, "begun": begun, "fed": updating(t), "failed": failed, "committed": committed, "offered": offered(t, 3), "tried": tried, "confirmed": confirmed, "left": left, "back": back}
}

// P26.12, P26.13: Save in each state: the flash's bytes; Load of them: a device with the same record and images, with power, of which none runs, no update is under way, and whose log is empty; Start of both answers the same.
func TestSaveInEachState(t *testing.T) {
	for name, d := range states(t) {
		was := toldOf(d)
		b := mustSave(t, d)
		if toldOf(d) != was {
			t.Errorf("%s: Save has made %s of %s", name, toldOf(d), was)
		}
		f, err := flash.Load(b)
		ok(t, err)
		if again, err := f.Save(); !bytes.Equal(again, b) || err != api.OK {
			t.Errorf("%s: not the flash's bytes", name)
		}
		x := mustLoad(t, b)
		if !x.On() || len(x.Log()) != 0 || !bytes.Equal(mustSave(t, x), b) {
			t.Errorf("%s: Load: %s", name, toldOf(x))
		}
		expectDoing(t, name, x, api.Image{}, false)
		expect(t, name, x.Feed(nil), api.ErrDevicePhase)
		r, err := d.Record()
		expectRecord(t, name, x, r, err)
		for _, i := range []api.Image{r.Good, r.Next} {
			b, err := d.Image(i)
			got, gotErr := x.Image(i)
			if !bytes.Equal(got, b) || gotErr != err {
				t.Errorf("%s: Image(%v): % x, %v, not % x, %v", name, i, got, gotErr, b, err)
			}
		}
		i, err := d.Start()
		expectStart(t, name, x, i, err)
		if !bytes.Equal(mustSave(t, x), mustSave(t, d)) {
			t.Errorf("%s: behind Start: %s, not %s", name, toldOf(x), toldOf(d))
		}
	}
}

// P26.12: a cut that is planned is not kept.
func TestSaveKeepsNoCut(t *testing.T) {
	d := offered(t, 3)
	ok(t, d.Cut(1, []byte("zz")))
	x := mustLoad(t, mustSave(t, d))
	expectStart(t, "no cut", x, newImage, api.OK)
	expectStart(t, "the cut", d, api.Image{}, api.ErrFlashPower)
	// And the two know nothing of each other.
	if !x.On() || d.On() {
		t.Errorf("%v, %v", x.On(), d.On())
	}
	expectDoing(t, "no cut", x, newImage, false)
}

// P26.12, the chapter's example 6.
func TestSaveExample(t *testing.T) {
	d := offered(t, 3)
	expectStart(t, "trial", d, newImage, api.OK)
	x := mustLoad(t, mustSave(t, d))
	expectDoing(t, "loaded", x, api.Image{}, false)
	expectStart(t, "loaded", x, newImage, api.OK)
	expectRecord(t, "loaded", x, seen(4, 1), api.OK)
	// Without a Start it can't be confirmed, though it was started ahead of Save.
	x = mustLoad(t, mustSave(t, d))
	refusedConfirm(t, "loaded", x, api.ErrDevicePhase)
}

// P26.12: a limit and the wear are in the bytes.
func TestSaveKeepsTheLimit(t *testing.T) {
	x := bare{shape: shape(64, 2), slots: [2][]byte{oldBytes, newBytes}, limit: 2}
	x.pages[0] = bytesOf(t, seen(7, 15))
	d := x.device(t)
	for n := range 3 {
		expectStart(t, "trial", d, newImage, api.OK)
		expectRecord(t, "trial", d, seen(8+n, 14-n), api.OK)
		d = mustLoad(t, mustSave(t, d))
	}
	expectStart(t, "worn", d, api.Image{}, api.ErrFlashWorn)
}
