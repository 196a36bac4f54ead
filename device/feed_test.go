package device_test

import (
	"bytes"
	"slices"
	"testing"

	"sapper/api"
	"sapper/device"
)

// P26.4: without an update: ErrDevicePhase, in each state, and nothing has changed.
func TestFeedWithout(t *testing.T) {
	running, tried, over := small(t), offered(t, 1), updating(t)
	expectStart(t, "running", running, oldImage, api.OK)
	expectStart(t, "tried", tried, newImage, api.OK)
	expectStart(t, "over", over, oldImage, api.OK)
	off := updating(t)
	ok(t, off.Cut(1, nil))
	_, err := off.Finish(2, 3)
	expect(t, "Finish", err, api.ErrApplyFlash)
	back := updating(t)
	ok(t, back.Cut(1, nil))
	back.Finish(2, 3)
	back.Power()
	for name, d := range map[string]*device.Device{"new": small(t), "running": running, "offered": offered(t, 3), "tried": tried, "started anew": over, "off": off, "back": back, "loaded": mustLoad(t, mustSave(t, updating(t)))} {
		was := toldOf(d)
		for _, b := range [][]byte{nil, {}, patch(t), []byte("X")} {
			expect(t, name, d.Feed(b), api.ErrDevicePhase)
		}
		if toldOf(d) != was {
			t.Errorf("%s: %s has become %s", name, was, toldOf(d))
		}
	}
}

// P26.4, P26.10: pieces of no byte, of one, of each size up to all.
func TestFeedPieces(t *testing.T) {
	p := patch(t)
	for size := 1; size <= len(p); size++ {
		d := small(t)
		expectStart(t, "good", d, oldImage, api.OK)
		ok(t, d.Begin(64, 100), d.Feed(nil), d.Feed([]byte{}))
		for part := range slices.Chunk(p, size) {
			ok(t, d.Feed(part), d.Feed(nil))
		}
		if r, err := d.Finish(2, 3); r != seen(2, 3) || err != api.OK {
			t.Errorf("%d: Finish: %v, %v", size, r, err)
		}
		expectImage(t, "fed", d, newImage, newBytes)
	}
}

// P26.7: Updating tells the header as soon as it was taken: here with its 21st byte.
func TestFeedTellsTheHead(t *testing.T) {
	d := small(t)
	expectStart(t, "good", d, oldImage, api.OK)
	ok(t, d.Begin(64, 100))
	want := api.Head{Old: 3, New: 4, OldSum: oldImage.Sum, NewSum: newImage.Sum, Window: 64, Look: 100}
	for i, v := range patch(t) {
		ok(t, d.Feed([]byte{v}))
		h, is := d.Updating()
		if whole := i >= 20; !is || (h == want) != whole || (h == api.Head{}) == whole {
			t.Errorf("behind byte %d: %v, %v", i, h, is)
		}
	}
	if _, err := d.Finish(0, 3); err != api.ErrBootOld {
		t.Errorf("Finish: %v", err)
	}
	if h, is := d.Updating(); h != want || !is {
		t.Errorf("committed: %v, %v", h, is)
	}
	_, err := d.Finish(2, 3)
	ok(t, err)
	if h, is := d.Updating(); h != (api.Head{}) || is {
		t.Errorf("offered: %v, %v", h, is)
	}
}

// P26.4: an error of the applier stays the answer, of Finish, too; the update stays under way, and the image goes on running; Begin begins another one.
func TestFeedError(t *testing.T) {
	last := patch(t)
	last[len(last)-1] ^= 1
	for name, c := range map[string]struct {
		p    []byte
		want api.Errno
	}{
		"no patch":          {[]byte("X"), api.ErrApplyForm},
		"another old image": {mustGenerate(t, []byte("odd"), newBytes, usual()), api.ErrApplyOld},
		"too large":         {mustGenerate(t, oldBytes, make([]byte, 129), usual()), api.ErrApplySize},
		"a sum":             {last, api.ErrApplySum},
		"a byte behind it":  {append(patch(t), 0), api.ErrApplyForm},
	} {
		d := small(t)
		expectStart(t, name, d, oldImage, api.OK)
		ok(t, d.Begin(64, 100))
		for range 2 {
			expect(t, name, d.Feed(c.p), c.want)
			expect(t, name, d.Feed(nil), c.want)
			if r, err := d.Finish(2, 3); r != (api.Record{}) || err != c.want {
				t.Errorf("%s: Finish: %v, %v", name, r, err)
			}
			expectDoing(t, name, d, oldImage, true)
			expectRecord(t, name, d, goodAlone(1), api.OK)
		}
		ok(t, d.Begin(64, 100), d.Feed(patch(t)))
		_, err := d.Finish(2, 3)
		ok(t, err)
	}
}

// P26.4: behind the commit, as long as the update is under way.
func TestFeedBehindCommit(t *testing.T) {
	d := updating(t)
	if _, err := d.Finish(0, 3); err != api.ErrBootOld {
		t.Errorf("Finish: %v", err)
	}
	for _, b := range [][]byte{nil, {0}, patch(t)} {
		expect(t, "committed", d.Feed(b), api.ErrApplyOver)
	}
	expectDoing(t, "committed", d, oldImage, true)
	if r, err := d.Finish(2, 3); r != seen(2, 3) || err != api.OK {
		t.Errorf("Finish: %v, %v", r, err)
	}
}

// long: a device of an image of 200 bytes, which runs, with an update to another one of 250 under way; and that one, with its patch: pages are written while it is fed.
func long(t *testing.T) (d *device.Device, next, p []byte) {
	t.Helper()
	r := rolls(20)
	old, next := r.data(200), r.data(250)
	d = mustNew(t, shape(64, 4), old, 1)
	expectStart(t, "long", d, imageOf(0, 1, old), api.OK)
	ok(t, d.Begin(64, 100))
	return d, next, mustGenerate(t, old, next, usual())
}

// P26.4, P26.8, G4: the power goes at each operation of an update: ErrApplyFlash of Feed or of Finish, none runs, no update is under way; behind Power the good image is started, and the update goes through.
func TestFeedCut(t *testing.T) {
	for n := 1; n <= 8; n++ {
		d, next, p := long(t)
		good, _ := d.Running()
		ok(t, d.Cut(n, []byte("torn")))
		err := d.Feed(p)
		if n > 6 { // the fourth page is written by Finish
			ok(t, err)
			_, err = d.Finish(2, 3)
		}
		expect(t, "cut", err, api.ErrApplyFlash)
		expectDoing(t, "cut", d, api.Image{}, false)
		if d.On() {
			t.Error("it has power")
		}
		expect(t, "without power", d.Feed(nil), api.ErrDevicePhase)
		if _, err := d.Finish(2, 3); err != api.ErrDevicePhase {
			t.Errorf("without power: Finish: %v", err)
		}
		d.Power()
		expectDoing(t, "power", d, api.Image{}, false)
		expect(t, "power", d.Feed(nil), api.ErrDevicePhase)
		expectStart(t, "power", d, good, api.OK)
		ok(t, d.Begin(64, 100), d.Feed(p))
		r, err := d.Finish(2, 3)
		ok(t, err)
		expectImage(t, "again", d, r.Next, next)
	}
}

// P26.4: a worn page: ErrApplyFlash, with power; the update stays under way, and the image goes on running.
func TestFeedWorn(t *testing.T) {
	r := rolls(21)
	old, next := r.data(64), r.data(100)
	x := bare{shape: shape(64, 2), slots: [2][]byte{old, nil}, limit: 1}
	x.pages[0] = bytesOf(t, api.Record{Seq: 1, Good: imageOf(0, 1, old)})
	f := x.flash(t)
	ok(t, f.Erase(1, 0))
	b, err := f.Save()
	ok(t, err)
	d := mustLoad(t, b)
	expectStart(t, "worn", d, imageOf(0, 1, old), api.OK)
	ok(t, d.Begin(64, 100))
	p := mustGenerate(t, old, next, usual())
	for range 2 {
		expect(t, "worn", d.Feed(p), api.ErrApplyFlash)
		if _, err := d.Finish(2, 3); err != api.ErrApplyFlash {
			t.Errorf("Finish: %v", err)
		}
		expectDoing(t, "worn", d, imageOf(0, 1, old), true)
	}
	if !d.On() || !bytes.Equal(mustSave(t, d), b) || len(d.Log()) != 0 {
		t.Error("something was done")
	}
}
