package device_test

import (
	"bytes"
	"math"
	"slices"
	"testing"

	"sapper/api"
	"sapper/device"
	"sapper/purse"
)

// P26.3: each refusal ahead of the next one: none runs, on or without power; a trial runs; a window or a look that may not be. None of them changes anything.
func TestBeginRefused(t *testing.T) {
	wrong := [][2]int{{63, 100}, {65537, 100}, {64, 0}, {64, 32769}, {0, 0}, {-1, -1}, {math.MinInt, math.MaxInt}, {math.MaxInt, math.MinInt}}
	refused := func(name string, d *device.Device, window, look int, want api.Errno) {
		t.Helper()
		was := toldOf(d)
		expect(t, name, d.Begin(window, look), want)
		if toldOf(d) != was {
			t.Errorf("%s: %s has become %s", name, was, toldOf(d))
		}
	}
	none, tried, good, offer := small(t), offered(t, 3), small(t), offered(t, 3)
	off := offered(t, 3)
	ok(t, off.Cut(1, nil))
	expectStart(t, "off", off, api.Image{}, api.ErrFlashPower)
	expectStart(t, "tried", tried, newImage, api.OK)
	expectStart(t, "good", good, oldImage, api.OK)
	for _, w := range append(wrong, [2]int{64, 100}) {
		refused("none runs", none, w[0], w[1], api.ErrDevicePhase)
		refused("without power", off, w[0], w[1], api.ErrDevicePhase)
		refused("a trial runs", tried, w[0], w[1], api.ErrDevicePhase)
	}
	for _, w := range wrong {
		refused("the good one runs", good, w[0], w[1], api.ErrApplySize)
		refused("with a Next", offer, w[0], w[1], api.ErrApplySize)
	}
	// Neither does it end an update that is under way.
	under := updating(t)
	for _, w := range wrong {
		refused("an update is under way", under, w[0], w[1], api.ErrApplySize)
	}
	if r, err := under.Finish(2, 3); r != seen(2, 3) || err != api.OK {
		t.Errorf("Finish: %v, %v", r, err)
	}
}

// P26.3: over a record without a Next nothing is written; an update is under way, with that window and look.
func TestBeginPlain(t *testing.T) {
	for _, w := range [][2]int{{64, 1}, {64, 100}, {65536, 32768}, {1000, 500}} {
		d := small(t)
		expectStart(t, "good", d, oldImage, api.OK)
		ok(t, d.Begin(w[0], w[1]))
		if h, is := d.Updating(); h != (api.Head{}) || !is {
			t.Errorf("Updating: %v, %v", h, is)
		}
		expectDoing(t, "update", d, oldImage, true)
		expectSame(t, "Held", d.Held(), purse.Bound(64, w[0], w[1]))
		expectSame(t, "Log", len(d.Log()), 2)
		expectRecord(t, "update", d, goodAlone(1), api.OK)
	}
	// And these are the greatest that it takes.
	o := usual()
	o.Window, o.Press.Look.Window = 65, 101
	p := mustGenerate(t, oldBytes, newBytes, o)
	for _, w := range [][2]int{{64, 101}, {65, 100}} {
		d := small(t)
		expectStart(t, "good", d, oldImage, api.OK)
		ok(t, d.Begin(w[0], w[1]))
		expect(t, "Feed", d.Feed(p), api.ErrApplySize)
	}
	d := small(t)
	expectStart(t, "good", d, oldImage, api.OK)
	ok(t, d.Begin(65, 101), d.Feed(p))
}

// P26.3, the chapter's example 5: over a record with a Next the one without it is written, ahead of the update.
func TestBeginOverOffer(t *testing.T) {
	d := offered(t, 3)
	n := len(d.Log())
	ok(t, d.Begin(64, 100))
	expectRecord(t, "begun", d, goodAlone(3), api.OK)
	expectDoing(t, "begun", d, oldImage, true)
	if got := d.Log()[n:]; !slices.Equal(got, opsOf(1, 2, 0, 2, 2, 0)) {
		t.Errorf("Log: %v", got)
	}
	expectStart(t, "behind it", d, oldImage, api.OK)
	expectRecord(t, "behind it", d, goodAlone(3), api.OK)
}

// P26.3: over an update that is under way: a new one, with its own window and look, that has taken nothing, also where the elder one has failed, or committed.
func TestBeginOverUpdate(t *testing.T) {
	ahead := map[string]func(d *device.Device){
		"begun":     func(*device.Device) {},
		"fed":       func(d *device.Device) { ok(t, d.Feed(patch(t)[:30])) },
		"failed":    func(d *device.Device) { expect(t, "Feed", d.Feed([]byte("X")), api.ErrApplyForm) },
		"whole":     func(d *device.Device) { ok(t, d.Feed(patch(t))) },
		"committed": func(d *device.Device) { ok(t, d.Feed(patch(t))); d.Finish(0, 3) },
	}
	for name, do := range ahead {
		d := small(t)
		expectStart(t, name, d, oldImage, api.OK)
		ok(t, d.Begin(64, 100))
		do(d)
		ops := len(d.Log())
		ok(t, d.Begin(100, 200))
		expectSame(t, name+": Held", d.Held(), purse.Bound(64, 100, 200))
		expectSame(t, name+": Log", len(d.Log()), ops)
		if h, is := d.Updating(); h != (api.Head{}) || !is {
			t.Errorf("%s: Updating: %v, %v", name, h, is)
		}
		ok(t, d.Feed(patch(t)))
		r, err := d.Finish(2, 3)
		if r != seen(2, 3) || err != api.OK {
			t.Errorf("%s: Finish: %v, %v", name, r, err)
		}
		expectImage(t, name, d, newImage, newBytes)
	}
}

// P26.3: the power goes at each operation of the write: ErrFlashPower, none runs, no update is under way.
func TestBeginCut(t *testing.T) {
	then := bytesOf(t, goodAlone(3))
	for n := 1; n <= 2; n++ {
		for _, b := range [][]byte{nil, then[:42], then, bytes.Repeat([]byte{0}, 64)} {
			d := offered(t, 3)
			ok(t, d.Cut(n, b))
			expect(t, "cut", d.Begin(64, 100), api.ErrFlashPower)
			expectDoing(t, "cut", d, api.Image{}, false)
			expect(t, "without power", d.Begin(64, 100), api.ErrDevicePhase)
			expect(t, "without power", d.Feed(nil), api.ErrDevicePhase)
			d.Power()
			expectDoing(t, "power", d, api.Image{}, false)
			if len(b) == 43 {
				expectRecord(t, "power", d, goodAlone(3), api.OK)
				expectStart(t, "power", d, oldImage, api.OK)
			} else {
				expectRecord(t, "power", d, seen(2, 3), api.OK)
				expectStart(t, "power", d, newImage, api.OK)
			}
		}
	}
}

// runsWithNext: a device whose good image runs, with an offer, and no page of whose records may be erased any more; and its records' bytes as they lie there.
func runsWithNext(t *testing.T) *device.Device {
	t.Helper()
	x := bare{shape: shape(64, 2), slots: [2][]byte{oldBytes, nil}, limit: 1}
	x.pages[1] = bytesOf(t, goodAlone(4))
	d := x.device(t)
	expectStart(t, "good", d, oldImage, api.OK)
	ok(t, d.Begin(64, 100), d.Feed(patch(t)))
	// That wears page 0 out.
	if r, err := d.Finish(2, 3); r != seen(5, 3) || err != api.OK {
		t.Fatalf("Finish: %v, %v", r, err)
	}
	return d
}

// P26.3: a worn page: Begin answers that, the good image goes on running, and no update is under way.
func TestBeginWorn(t *testing.T) {
	d := runsWithNext(t)
	was := toldOf(d)
	for range 2 {
		expect(t, "worn", d.Begin(64, 100), api.ErrFlashWorn)
		expectDoing(t, "worn", d, oldImage, false)
		if toldOf(d) != was {
			t.Errorf("%s has become %s", was, toldOf(d))
		}
	}
}

// P26.3: a Seq that has come to its end: no record without the Next can be written.
func TestBeginAtTheEnd(t *testing.T) {
	x := bare{shape: shape(64, 2), slots: [2][]byte{oldBytes, nil}}
	x.pages[1] = bytesOf(t, goodAlone(topSeq-1))
	d := x.device(t)
	expectStart(t, "good", d, oldImage, api.OK)
	ok(t, d.Begin(64, 100), d.Feed(patch(t)))
	if r, err := d.Finish(2, 3); r != seen(topSeq, 3) || err != api.OK {
		t.Fatalf("Finish: %v, %v", r, err)
	}
	expect(t, "the last one", d.Begin(64, 100), api.ErrBootRecord)
	expectDoing(t, "the last one", d, oldImage, false)
	expectRecord(t, "the last one", d, seen(topSeq, 3), api.OK)
}

// P26.3: behind a Confirm the image that runs is the good one, and can be updated.
func TestBeginBehindConfirm(t *testing.T) {
	d := offered(t, 3)
	expectStart(t, "trial", d, newImage, api.OK)
	expect(t, "ahead", d.Begin(64, 100), api.ErrDevicePhase)
	_, err := d.Confirm()
	ok(t, err, d.Begin(64, 100))
	expectDoing(t, "behind", d, newImage, true)
}
