package device_test

import (
	"bytes"
	"math"
	"slices"
	"testing"

	"sapper/api"
	"sapper/device"
)

// refusedFinish: what Finish answers beside an error.
func refusedFinish(t *testing.T, name string, d *device.Device, version, tries int, want api.Errno) {
	t.Helper()
	if r, err := d.Finish(version, tries); r != (api.Record{}) || err != want {
		t.Errorf("%s: Finish(%d, %d): %v, %v, not %v", name, version, tries, r, err, want)
	}
}

// P26.5: without an update, whatever the version and the tries: ErrDevicePhase.
func TestFinishWithout(t *testing.T) {
	running, tried := small(t), offered(t, 3)
	expectStart(t, "running", running, oldImage, api.OK)
	expectStart(t, "tried", tried, newImage, api.OK)
	for name, d := range map[string]*device.Device{"new": small(t), "running": running, "tried": tried, "offered": offered(t, 3)} {
		was := toldOf(d)
		for _, version := range []int{2, 0, -1, topVersion + 1} {
			for _, tries := range []int{1, 0, topTries + 1} {
				refusedFinish(t, name, d, version, tries, api.ErrDevicePhase)
			}
		}
		if toldOf(d) != was {
			t.Errorf("%s: %s has become %s", name, was, toldOf(d))
		}
	}
}

// P26.5: ahead of the patch's end: the applier's error, which stays, whatever comes.
func TestFinishEarly(t *testing.T) {
	p := patch(t)
	for at := range p {
		d := small(t)
		expectStart(t, "good", d, oldImage, api.OK)
		ok(t, d.Begin(64, 100), d.Feed(p[:at]))
		// The applier is asked ahead of the version and the tries.
		refusedFinish(t, "early", d, 0, 0, api.ErrApplyForm)
		expectDoing(t, "early", d, oldImage, true)
		expect(t, "the rest", d.Feed(p[at:]), api.ErrApplyForm)
		refusedFinish(t, "behind it", d, 2, 3, api.ErrApplyForm)
		expectRecord(t, "behind it", d, goodAlone(1), api.OK)
	}
}

// P26.5: the image that is offered: in the other slot, of the patch's size and sum, with that version and tries; written behind the elder record. The update has ended, and the image that runs goes on.
func TestFinishOffers(t *testing.T) {
	for _, version := range []int{1, 2, 3, topVersion} {
		for _, tries := range []int{1, 2, topTries} {
			d := updating(t)
			want := api.Record{Seq: 2, Good: oldImage, Next: imageOf(1, version, newBytes), Trial: tries}
			if r, err := d.Finish(version, tries); r != want || err != api.OK {
				t.Errorf("Finish(%d, %d): %v, %v, not %v", version, tries, r, err, want)
			}
			expectRecord(t, "offered", d, want, api.OK)
			expectDoing(t, "offered", d, oldImage, false)
			expectImage(t, "offered", d, want.Next, newBytes)
			if got := d.Log(); !slices.Equal(got, opsOf(1, 2, 0, 2, 2, 0, 1, 1, 0, 2, 1, 0, 1, 2, 1, 2, 2, 1)) {
				t.Errorf("Log: %v", got)
			}
			was := toldOf(d)
			refusedFinish(t, "a second one", d, version, tries, api.ErrDevicePhase)
			if toldOf(d) != was {
				t.Errorf("%s has become %s", was, toldOf(d))
			}
		}
	}
}

// P26.5: from slot 1 into slot 0, too, and with an image of no bytes.
func TestFinishOfOtherSlot(t *testing.T) {
	for _, next := range [][]byte{nil, oldBytes, bytes.Repeat([]byte{9}, 128)} {
		x := bare{shape: shape(64, 2), slots: [2][]byte{oldBytes, newBytes}}
		x.pages[0] = bytesOf(t, api.Record{Seq: 5, Good: newImage})
		d := x.device(t)
		expectStart(t, "slot 1", d, newImage, api.OK)
		ok(t, d.Begin(64, 100), d.Feed(mustGenerate(t, newBytes, next, usual())))
		want := api.Record{Seq: 6, Good: newImage, Next: imageOf(0, 2, next), Trial: 1}
		if r, err := d.Finish(2, 1); r != want || err != api.OK {
			t.Errorf("Finish: %v, %v, not %v", r, err, want)
		}
		expectImage(t, "slot 0", d, want.Next, next)
		expectStart(t, "slot 0", d, want.Next, api.OK)
	}
}

// P26.5, the chapter's example 4: versions and tries that may not be: each refusal leaves the update under way, committed as it is, and writes nothing; a good call then is answered. The tries are looked at ahead of the version.
func TestFinishRefused(t *testing.T) {
	wrong := []struct {
		version, tries int
		want           api.Errno
	}{
		{0, 3, api.ErrBootOld},
		{-1, 3, api.ErrBootOld},
		{math.MinInt, 1, api.ErrBootOld},
		{2, 0, api.ErrArg},
		{2, -1, api.ErrArg},
		{2, topTries + 1, api.ErrArg},
		{2, math.MinInt, api.ErrArg},
		{2, math.MaxInt, api.ErrArg},
		{0, 0, api.ErrArg},
		{topVersion + 1, topTries + 1, api.ErrArg},
		{topVersion + 1, 3, api.ErrBootRecord},
		{1<<32 + 2, 3, api.ErrBootRecord},
		{math.MaxInt, 3, api.ErrBootRecord},
	}
	all := updating(t)
	for _, c := range wrong {
		d := updating(t)
		for range 2 {
			refusedFinish(t, "one", d, c.version, c.tries, c.want)
			refusedFinish(t, "all", all, c.version, c.tries, c.want)
			expectDoing(t, "refused", d, oldImage, true)
			expectRecord(t, "refused", d, goodAlone(1), api.OK)
			expectSame(t, "Log", d.Log(), opsOf(1, 2, 0, 2, 2, 0, 1, 1, 0, 2, 1, 0))
		}
		if r, err := d.Finish(2, 3); r != seen(2, 3) || err != api.OK {
			t.Errorf("behind it: %v, %v", r, err)
		}
	}
	if r, err := all.Finish(2, 3); r != seen(2, 3) || err != api.OK {
		t.Errorf("behind all: %v, %v", r, err)
	}
}

// P26.5, P26.8: the power goes at each operation of the record's write: ErrFlashPower, none runs, no update is under way; behind Power the image is offered just if its whole record stands there.
func TestFinishCut(t *testing.T) {
	then := bytesOf(t, seen(2, 3))
	for n := 3; n <= 4; n++ { // the first two write the image's page
		for _, b := range [][]byte{nil, then[:1], then[:42], then, slices.Concat(then, []byte{0})} {
			d := updating(t)
			ok(t, d.Cut(n, b))
			refusedFinish(t, "cut", d, 2, 3, api.ErrFlashPower)
			expectDoing(t, "cut", d, api.Image{}, false)
			refusedFinish(t, "without power", d, 2, 3, api.ErrDevicePhase)
			d.Power()
			refusedFinish(t, "power", d, 2, 3, api.ErrDevicePhase)
			if len(b) >= 43 {
				expectRecord(t, "whole", d, seen(2, 3), api.OK)
				expectStart(t, "whole", d, newImage, api.OK)
			} else {
				expectRecord(t, "torn", d, goodAlone(1), api.OK)
				expectStart(t, "torn", d, oldImage, api.OK)
			}
		}
	}
}

// P26.5: a worn page of the records: Finish answers that as often as it is called; the update stays under way, committed, and the image goes on running.
func TestFinishWorn(t *testing.T) {
	x := bare{shape: shape(64, 2), slots: [2][]byte{oldBytes, nil}, limit: 1}
	x.pages[0], x.pages[1] = bytesOf(t, goodAlone(4)), bytesOf(t, goodAlone(3))
	d := x.device(t)
	expectStart(t, "worn", d, oldImage, api.OK)
	ok(t, d.Begin(64, 100), d.Feed(patch(t)))
	for range 3 {
		refusedFinish(t, "worn", d, 2, 3, api.ErrFlashWorn)
		expectDoing(t, "worn", d, oldImage, true)
		expectRecord(t, "worn", d, goodAlone(4), api.OK)
		expectImage(t, "worn", d, newImage, newBytes)
		expect(t, "Feed", d.Feed(nil), api.ErrApplyOver)
	}
	if got := d.Log(); !slices.Equal(got, opsOf(1, 1, 0, 2, 1, 0)) {
		t.Errorf("Log: %v", got)
	}
}

// P26.5: a Seq that has come to its end.
func TestFinishAtTheEnd(t *testing.T) {
	x := bare{shape: shape(64, 2), slots: [2][]byte{oldBytes, nil}}
	x.pages[0] = bytesOf(t, goodAlone(topSeq))
	d := x.device(t)
	expectStart(t, "the last one", d, oldImage, api.OK)
	ok(t, d.Begin(64, 100), d.Feed(patch(t)))
	refusedFinish(t, "the last one", d, 2, 3, api.ErrBootRecord)
	expectDoing(t, "the last one", d, oldImage, true)
}
