package device_test

import (
	"bytes"
	"math"
	"slices"
	"testing"

	"sapper/api"
	"sapper/device"
)

// P26.7: Cut as the flash has it: what may be, what may not be and leaves the plan as it was, one that takes another one's place, and none.
func TestCut(t *testing.T) {
	d := offered(t, 3)
	for _, n := range []int{-1, math.MinInt} {
		expect(t, "below 0", d.Cut(n, nil), api.ErrArg)
	}
	for _, n := range []int{0, 1, 5} {
		expect(t, "too much torn", d.Cut(n, make([]byte, 65)), api.ErrArg)
	}
	expectStart(t, "no cut", d, newImage, api.OK)
	ok(t, d.Cut(1, make([]byte, 64)), d.Cut(0, nil))
	expectStart(t, "no cut any more", d, newImage, api.OK)
	ok(t, d.Cut(1, nil), d.Cut(math.MaxInt, nil))
	expectStart(t, "a late one", d, newImage, api.OK)
	d = offered(t, 3)
	ok(t, d.Cut(2, []byte("zz")))
	expect(t, "below 0", d.Cut(-1, nil), api.ErrArg)
	expectStart(t, "the cut as it was", d, api.Image{}, api.ErrFlashPower)
	expect(t, "without power", d.Cut(1, nil), api.ErrFlashPower)
	expect(t, "without power", d.Cut(-1, make([]byte, 65)), api.ErrFlashPower)
	if got := d.Log(); !slices.Equal(got[len(got)-2:], opsOf(1, 2, 0, 2, 2, 0)) {
		t.Errorf("Log: %v", got)
	}
	d.Power()
	if b, err := flashOf(t, d).Read(2, 0, 3); string(b) != "zz\xff" || err != api.OK {
		t.Errorf("torn: % x, %v", b, err)
	}
}

// P26.7: Power: while there is power it changes nothing: what runs goes on, an update, and a planned cut; behind a cut nothing runs, over and over.
func TestPower(t *testing.T) {
	running, tried := small(t), offered(t, 3)
	expectStart(t, "running", running, oldImage, api.OK)
	expectStart(t, "tried", tried, newImage, api.OK)
	for name, d := range map[string]*device.Device{"new": small(t), "running": running, "updating": updating(t), "offered": offered(t, 3), "tried": tried} {
		was := toldOf(d)
		d.Power()
		d.Power()
		if toldOf(d) != was || !d.On() {
			t.Errorf("%s: %s has become %s", name, was, toldOf(d))
		}
	}
	d := updating(t)
	ok(t, d.Cut(1, nil))
	d.Power()
	expectDoing(t, "a cut is planned", d, oldImage, true)
	refusedFinish(t, "the cut", d, 2, 3, api.ErrApplyFlash)
	if d.On() {
		t.Error("it has power")
	}
	for range 2 {
		d.Power()
		if !d.On() {
			t.Error("it has no power")
		}
		expectDoing(t, "back", d, api.Image{}, false)
	}
	expectStart(t, "back", d, oldImage, api.OK)
}

// P26.7: without power: nothing runs, each call says so, and only the log is told.
func TestWithoutPower(t *testing.T) {
	d := updating(t)
	ok(t, d.Cut(1, nil))
	refusedFinish(t, "cut", d, 2, 3, api.ErrApplyFlash)
	log := d.Log()
	for range 2 {
		expectDoing(t, "off", d, api.Image{}, false)
		expectStart(t, "off", d, api.Image{}, api.ErrFlashPower)
		expect(t, "Begin", d.Begin(64, 100), api.ErrDevicePhase)
		expect(t, "Feed", d.Feed(nil), api.ErrDevicePhase)
		refusedFinish(t, "off", d, 2, 3, api.ErrDevicePhase)
		refusedConfirm(t, "off", d, api.ErrDevicePhase)
		expect(t, "Cut", d.Cut(0, nil), api.ErrFlashPower)
		expectRecord(t, "off", d, api.Record{}, api.ErrFlashPower)
		for _, i := range []api.Image{oldImage, newImage, {}, {Slot: -1}, {Size: -1}} {
			if b, err := d.Image(i); len(b) != 0 || err != api.ErrFlashPower {
				t.Errorf("Image(%v): %x, %v", i, b, err)
			}
		}
		if b, err := d.Save(); len(b) != 0 || err != api.ErrFlashPower {
			t.Errorf("Save: %x, %v", b, err)
		}
		if d.On() || !slices.Equal(d.Log(), log) {
			t.Errorf("%v, %v", d.On(), d.Log())
		}
	}
}

// P26.7: images at the edges: slots, sizes, sums; a Version says nothing.
func TestImage(t *testing.T) {
	whole := slices.Concat(newBytes, bytes.Repeat([]byte{255}, 124))
	x := bare{shape: shape(64, 2), slots: [2][]byte{oldBytes, newBytes}}
	d := x.device(t)
	for name, c := range map[string]struct {
		i    api.Image
		want []byte
		err  api.Errno
	}{
		"slot 0":               {oldImage, oldBytes, api.OK},
		"slot 1":               {newImage, newBytes, api.OK},
		"a whole slot":         {imageOf(1, 9, whole), whole, api.OK},
		"a byte less":          {imageOf(1, 9, whole[:127]), whole[:127], api.OK},
		"no bytes":             {api.Image{}, nil, api.OK},
		"no bytes of slot 1":   {api.Image{Slot: 1, Version: 3}, nil, api.OK},
		"version 0":            {imageOf(0, 0, oldBytes), oldBytes, api.OK},
		"a version below":      {imageOf(0, math.MinInt, oldBytes), oldBytes, api.OK},
		"a version above":      {imageOf(0, math.MaxInt, oldBytes), oldBytes, api.OK},
		"no bytes, with a sum": {api.Image{Sum: 1}, nil, api.ErrDeviceImage},
		"the other slot":       {imageOf(1, 1, oldBytes), nil, api.ErrDeviceImage},
		"slot -1":              {imageOf(-1, 1, oldBytes), nil, api.ErrDeviceImage},
		"slot 2":               {imageOf(2, 1, oldBytes), nil, api.ErrDeviceImage},
		"slot 2, of none":      {imageOf(2, 1, nil), nil, api.ErrDeviceImage},
		"slot -1, of none":     {imageOf(-1, 1, nil), nil, api.ErrDeviceImage},
		"size -1":              {api.Image{Size: -1}, nil, api.ErrDeviceImage},
		"the least size":       {api.Image{Size: math.MinInt}, nil, api.ErrDeviceImage},
		"a byte too many":      {imageOf(1, 1, append(slices.Clone(whole), 255)), nil, api.ErrDeviceImage},
		"the greatest image":   {api.Image{Size: 1 << 24}, nil, api.ErrDeviceImage},
		"the greatest size":    {api.Image{Size: math.MaxInt}, nil, api.ErrDeviceImage},
		"another sum":          {api.Image{Size: 3, Sum: oldImage.Sum ^ 1}, nil, api.ErrDeviceImage},
		"another size":         {api.Image{Size: 2, Sum: oldImage.Sum}, nil, api.ErrDeviceImage},
	} {
		if b, err := d.Image(c.i); !bytes.Equal(b, c.want) || err != c.err {
			t.Errorf("%s: Image(%v): % x, %v, not % x, %v", name, c.i, b, err, c.want, c.err)
		}
	}
	// Of the records, which the flash has as area 2, there is no image, even where it would hold.
	y := bare{shape: shape(64, 2), slots: x.slots, pages: [2][]byte{bytesOf(t, goodAlone(1)), nil}}
	if b, err := y.device(t).Image(imageOf(2, 1, bytesOf(t, goodAlone(1)))); len(b) != 0 || err != api.ErrDeviceImage {
		t.Errorf("area 2: % x, %v", b, err)
	}
}

// P26.7: Running, Updating, Held, Record and On, from New on to a second image that is confirmed.
func TestTold(t *testing.T) {
	d := small(t)
	tell := func(name string, runs api.Image, updates bool, r api.Record) {
		t.Helper()
		expectDoing(t, name, d, runs, updates)
		expectRecord(t, name, d, r, api.OK)
		if !d.On() {
			t.Errorf("%s: without power", name)
		}
	}
	tell("new", api.Image{}, false, goodAlone(1))
	expectStart(t, "good", d, oldImage, api.OK)
	tell("good", oldImage, false, goodAlone(1))
	ok(t, d.Begin(64, 100))
	tell("begun", oldImage, true, goodAlone(1))
	expectSame(t, "Held", d.Held(), 4639)
	ok(t, d.Feed(patch(t)))
	tell("fed", oldImage, true, goodAlone(1))
	expectSame(t, "Held", d.Held(), 4639)
	_, err := d.Finish(2, 3)
	ok(t, err)
	tell("offered", oldImage, false, seen(2, 3))
	expectSame(t, "Held", d.Held(), 0)
	expectStart(t, "tried", d, newImage, api.OK)
	tell("tried", newImage, false, seen(3, 2))
	_, err = d.Confirm()
	ok(t, err)
	tell("confirmed", newImage, false, api.Record{Seq: 4, Good: newImage})
}

// P26.7: an image that runs is told by whether one does: one of no bytes and no sum, too.
func TestRunningOfNothing(t *testing.T) {
	d := mustNew(t, shape(64, 1), nil, 1)
	expectStart(t, "none", d, api.Image{Version: 1}, api.OK)
	if i, runs := d.Running(); i != (api.Image{Version: 1}) || !runs {
		t.Errorf("%v, %v", i, runs)
	}
}

// R3: what Log and Image answer is new memory each time, and stays as it is; Save's bytes, too.
func TestMemoryOfAnswers(t *testing.T) {
	d := offered(t, 3)
	was := toldOf(d)
	log, kept := d.Log(), d.Log()
	b, err := d.Image(newImage)
	ok(t, err)
	saved := mustSave(t, d)
	again := slices.Clone(saved)
	spoil(log, api.Op{})
	spoil(b, 0)
	other := mustLoad(t, saved)
	spoil(saved, 0)
	if toldOf(d) != was || !bytes.Equal(mustSave(t, other), again) || !bytes.Equal(mustSave(t, d), again) {
		t.Error("an answer shares memory")
	}
	n := len(kept)
	expectStart(t, "behind it", d, newImage, api.OK)
	if !slices.Equal(kept, d.Log()[:n]) || len(d.Log()) != n+2 {
		t.Error("an answer has changed")
	}
}

// R3: what is handed to Feed and to Cut is not changed, and not kept.
func TestMemoryHandedIn(t *testing.T) {
	d := small(t)
	expectStart(t, "good", d, oldImage, api.OK)
	ok(t, d.Begin(64, 100))
	for part := range slices.Chunk(patch(t), 7) {
		given, same := lent(part)
		ok(t, d.Feed(given))
		if !same() {
			t.Error("what was handed in has changed")
		}
		spoil(given, 0)
	}
	torn, same := lent([]byte("torn"))
	ok(t, d.Cut(4, torn))
	if !same() {
		t.Error("what was handed in has changed")
	}
	spoil(torn, 0)
	refusedFinish(t, "cut", d, 2, 3, api.ErrFlashPower)
	d.Power()
	if b, err := flashOf(t, d).Read(2, 64, 4); string(b) != "torn" || err != api.OK {
		t.Errorf("torn: % x, %v", b, err)
	}
}
