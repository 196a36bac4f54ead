package device_test

import (
	"bytes"
	"slices"
	"testing"

	"sapper/api"
	"sapper/boot"
)

// seen: the record that a device of the examples has with so many starts left for its new image.
func seen(seq, trial int) api.Record {
	return api.Record{Seq: seq, Good: oldImage, Next: newImage, Trial: trial}
}

// goodAlone: a record with nothing on trial.
func goodAlone(seq int) api.Record { return api.Record{Seq: seq, Good: oldImage} }

// begun is a Start of a device as it lies there: what it answers, the record behind it, and the page that it was written to (-1: none was).
type begun struct {
	name    string
	slots   [2][]byte
	r       api.Record
	want    api.Image
	wantErr api.Errno
	behind  api.Record
	written int
}

func begins() []begun {
	both := [2][]byte{oldBytes, newBytes}
	over := func(r api.Record, change func(r *api.Record)) api.Record {
		change(&r)
		return r
	}
	wide := over(seen(7, 2), func(r *api.Record) { r.Next.Size = 129 })
	widest := over(seen(7, 2), func(r *api.Record) { r.Next.Size = 1 << 24 })
	other := over(seen(7, 1), func(r *api.Record) { r.Next.Sum ^= 1 })
	shorter := over(seen(7, 15), func(r *api.Record) { r.Next.Size = 3 })
	wideGone := over(seen(7, 0), func(r *api.Record) { r.Next.Size = 129 })
	badGood := over(goodAlone(7), func(r *api.Record) { r.Good.Sum ^= 1 << 31 })
	wideGood := over(goodAlone(7), func(r *api.Record) { r.Good.Size = 129 })
	badGoodTried := over(seen(7, 2), func(r *api.Record) { r.Good.Sum ^= 1 })
	badGoodGone := over(seen(7, 0), func(r *api.Record) { r.Good.Sum ^= 1 })
	badBoth := over(seen(7, 2), func(r *api.Record) { r.Good.Sum ^= 1; r.Next.Sum ^= 1 })
	tops := over(goodAlone(topSeq), func(r *api.Record) { r.Good.Version = topVersion })
	empty := api.Record{Seq: 7, Good: imageOf(0, 1, nil), Next: imageOf(1, 1, nil), Trial: 1}
	whole := [2][]byte{bytes.Repeat([]byte{1}, 128), bytes.Repeat([]byte{2}, 128)}
	wholes := api.Record{Seq: 7, Good: imageOf(0, 1, whole[0]), Next: imageOf(1, 1, whole[1]), Trial: 1}
	return []begun{
		{"nothing on trial", both, goodAlone(7), oldImage, api.OK, goodAlone(7), -1},
		{"nothing on trial, at the greatest Seq and Version", both, tops, tops.Good, api.OK, tops, -1},
		{"a trial with fifteen left", both, seen(7, 15), newImage, api.OK, seen(8, 14), 1},
		{"a trial with one left", both, seen(7, 1), newImage, api.OK, seen(8, 0), 1},
		{"a trial with none left", both, seen(7, 0), oldImage, api.OK, goodAlone(8), 1},
		{"a trial of no bytes", both, empty, empty.Next, api.OK, api.Record{Seq: 8, Good: empty.Good, Next: empty.Next}, 1},
		{"a trial of a whole slot", whole, wholes, wholes.Next, api.OK, api.Record{Seq: 8, Good: wholes.Good, Next: wholes.Next}, 1},
		{"a trial larger than a slot", both, wide, oldImage, api.OK, goodAlone(8), 1},
		{"a trial of the greatest size", both, widest, oldImage, api.OK, goodAlone(8), 1},
		{"a trial with another sum", both, other, oldImage, api.OK, goodAlone(8), 1},
		{"a trial with another size", both, shorter, oldImage, api.OK, goodAlone(8), 1},
		{"a trial that is not there", [2][]byte{oldBytes, nil}, seen(7, 3), oldImage, api.OK, goodAlone(8), 1},
		{"a trial with none left, larger than a slot", both, wideGone, oldImage, api.OK, goodAlone(8), 1},
		{"a good one with another sum", both, badGood, api.Image{}, api.ErrDeviceImage, badGood, -1},
		{"a good one larger than a slot", both, wideGood, api.Image{}, api.ErrDeviceImage, wideGood, -1},
		{"a good one with another sum, and a trial", both, badGoodTried, newImage, api.OK, api.Record{Seq: 8, Good: badGoodTried.Good, Next: newImage, Trial: 1}, 1},
		{"a good one with another sum, and a trial with none left", both, badGoodGone, api.Image{}, api.ErrDeviceImage, badGoodGone, -1},
		{"none holds", both, badBoth, api.Image{}, api.ErrDeviceImage, badBoth, -1},
		{"none is there", [2][]byte{}, seen(7, 3), api.Image{}, api.ErrDeviceImage, seen(7, 3), -1},
		{"a trial at the greatest Seq", both, seen(topSeq, 3), api.Image{}, api.ErrBootRecord, seen(topSeq, 3), -1},
		{"a trial at the greatest Seq but one", both, seen(topSeq-1, 3), newImage, api.OK, seen(topSeq, 2), 1},
	}
}

// P26.2: Starts of devices as they lie there, with the record on either page and either slot active: what is answered, what runs, which slot is active, which record stands there, and what was done.
func TestStartAsItLies(t *testing.T) {
	for _, c := range begins() {
		for active := range 2 {
			for page := range 2 {
				x := bare{shape: shape(64, 2), active: active, slots: c.slots}
				x.pages[page] = bytesOf(t, c.r)
				d := x.device(t)
				expectStart(t, c.name, d, c.want, c.wantErr)
				expectDoing(t, c.name, d, c.want, false)
				expectRecord(t, c.name, d, c.behind, api.OK)
				var ops []api.Op
				if c.written >= 0 {
					ops = opsOf(1, 2, 1-page, 2, 2, 1-page)
				}
				if got := d.Log(); !slices.Equal(got, ops) {
					t.Errorf("%s: Log %v, not %v", c.name, got, ops)
				}
				turned := active
				if c.wantErr == api.OK {
					turned = c.want.Slot
				}
				if got := flashOf(t, d).Active(); got != turned {
					t.Errorf("%s: slot %d is active, not %d", c.name, got, turned)
				}
			}
		}
	}
}

// P26.2: no record on either page: none at all, spoilt ones, ones that may not be.
func TestStartWithoutRecord(t *testing.T) {
	spoilt := bytesOf(t, goodAlone(1))
	spoilt[42] ^= 1
	for _, b := range [][]byte{nil, {}, spoilt, spoilt[:42], []byte("bt01")} {
		x := bare{shape: shape(64, 2), slots: [2][]byte{oldBytes, newBytes}, pages: [2][]byte{b, b}}
		d := x.device(t)
		was := toldOf(d)
		for range 2 {
			expectStart(t, "none", d, api.Image{}, api.ErrBootNone)
			if toldOf(d) != was {
				t.Errorf("%s has become %s", was, toldOf(d))
			}
		}
	}
}

// P26.2, the chapter's example 3 and example 9 of the whole: an image that is not confirmed is started as often as it was offered for, and then the good one.
func TestStartsOfATrial(t *testing.T) {
	for _, tries := range []int{1, 2, 3, topTries} {
		d := offered(t, tries)
		for left := tries - 1; left >= 0; left-- {
			expectStart(t, "trial", d, newImage, api.OK)
			expectRecord(t, "trial", d, seen(2+tries-left, left), api.OK)
			expectDoing(t, "trial", d, newImage, false)
		}
		for range 3 {
			expectStart(t, "behind it", d, oldImage, api.OK)
			expectRecord(t, "behind it", d, goodAlone(3+tries), api.OK)
			expectDoing(t, "behind it", d, oldImage, false)
		}
	}
}

// P26.2: a record that stays as it is is not written: Start of the good image, however often, is no operation.
func TestStartOfGoodWritesNothing(t *testing.T) {
	d := small(t)
	for range 5 {
		expectStart(t, "good", d, oldImage, api.OK)
	}
	if got := d.Log(); len(got) != 2 {
		t.Error(got)
	}
	expectRecord(t, "good", d, goodAlone(1), api.OK)
}

// P26.2, P26.8, the chapter's example 7: the power goes at each operation of a Start, with all kinds of torn bytes: ErrFlashPower, none runs; behind Power the record is the elder one, or the one that was being written, and Start goes on from there.
func TestStartCut(t *testing.T) {
	then := bytesOf(t, seen(3, 2))
	torn := [][]byte{nil, {}, {1}, then[:42], then, slices.Concat(then, []byte("more")), bytes.Repeat([]byte{255}, 64)}
	for n := 1; n <= 2; n++ {
		for i, b := range torn {
			d := offered(t, 3)
			ok(t, d.Cut(n, b))
			expectStart(t, "cut", d, api.Image{}, api.ErrFlashPower)
			expectDoing(t, "cut", d, api.Image{}, false)
			if d.On() {
				t.Error("it has power")
			}
			expectStart(t, "without power", d, api.Image{}, api.ErrFlashPower)
			d.Power()
			expectDoing(t, "power", d, api.Image{}, false)
			want := seen(2, 3)
			if i == 4 || i == 5 {
				want = seen(3, 2)
			}
			expectRecord(t, "power", d, want, api.OK)
			expectStart(t, "again", d, newImage, api.OK)
			expectRecord(t, "again", d, seen(want.Seq+1, want.Trial-1), api.OK)
		}
	}
	// A third operation there is not, so that the cut comes to the next Start.
	d := offered(t, 3)
	ok(t, d.Cut(3, nil))
	expectStart(t, "whole", d, newImage, api.OK)
	expectStart(t, "cut", d, api.Image{}, api.ErrFlashPower)
}

// P26.2: a worn page: Start answers that, none runs from then on, no update is under way, and the record is as it was.
func TestStartWorn(t *testing.T) {
	x := bare{shape: shape(64, 2), slots: [2][]byte{oldBytes, newBytes}, limit: 1}
	x.pages[0], x.pages[1] = bytesOf(t, seen(6, 2)), bytesOf(t, seen(7, 1))
	d := x.device(t)
	for range 2 {
		expectStart(t, "worn", d, api.Image{}, api.ErrFlashWorn)
		expectDoing(t, "worn", d, api.Image{}, false)
		expectRecord(t, "worn", d, seen(7, 1), api.OK)
		if !d.On() || len(d.Log()) != 0 {
			t.Errorf("%v, %v", d.On(), d.Log())
		}
	}
}

// P26.2: an image that runs, or an update that is under way, ends with a Start, also with one that answers an error.
func TestStartOverUpdate(t *testing.T) {
	d := updating(t)
	expectDoing(t, "ahead", d, oldImage, true)
	expectStart(t, "over an update", d, oldImage, api.OK)
	expectDoing(t, "behind", d, oldImage, false)
	expect(t, "Feed", d.Feed(nil), api.ErrDevicePhase)
	if _, err := d.Finish(2, 3); err != api.ErrDevicePhase {
		t.Errorf("Finish: %v", err)
	}
	expectRecord(t, "behind", d, goodAlone(1), api.OK)
	// The good one runs, and behind its Finish the new one.
	d = offered(t, 1)
	expectDoing(t, "offered", d, oldImage, false)
	expectStart(t, "over the good one", d, newImage, api.OK)
	expectDoing(t, "over the good one", d, newImage, false)
	expectStart(t, "over the trial", d, oldImage, api.OK)
	expectDoing(t, "over the trial", d, oldImage, false)
}

// P26.2: an error ends what runs, too: here a trial with one start left, over a page that wears out.
func TestStartErrorEnds(t *testing.T) {
	x := bare{shape: shape(64, 2), slots: [2][]byte{oldBytes, newBytes}, limit: 1}
	x.pages[0] = bytesOf(t, seen(7, 2))
	d := x.device(t)
	expectStart(t, "page 1", d, newImage, api.OK)
	expectDoing(t, "page 1", d, newImage, false)
	expectStart(t, "page 0", d, api.Image{}, api.ErrFlashWorn)
	expectDoing(t, "page 0", d, api.Image{}, false)
	expectRecord(t, "page 0", d, seen(8, 1), api.OK)
}

// P26.2: the image is looked at anew by each Start: one that was written over is not started.
func TestStartLooks(t *testing.T) {
	d := offered(t, 3)
	expectStart(t, "trial", d, newImage, api.OK)
	f := flashOf(t, d)
	ok(t, f.Erase(1, 0))
	b, err := f.Save()
	ok(t, err)
	d = mustLoad(t, b)
	expectStart(t, "the new one is gone", d, oldImage, api.OK)
	expectRecord(t, "the new one is gone", d, goodAlone(4), api.OK)
	f = flashOf(t, d)
	ok(t, f.Erase(0, 0))
	b, err = f.Save()
	ok(t, err)
	d = mustLoad(t, b)
	expectStart(t, "the old one is gone, too", d, api.Image{}, api.ErrDeviceImage)
	expectDoing(t, "the old one is gone, too", d, api.Image{}, false)
}

// P26.2: what boot.Start says is what is written, over all trials.
func TestStartAsBootSays(t *testing.T) {
	for trial := range topTries + 1 {
		x := bare{shape: shape(64, 2), slots: [2][]byte{oldBytes, newBytes}}
		x.pages[1] = bytesOf(t, seen(9, trial))
		want, i, err := boot.Start(seen(9, trial))
		ok(t, err)
		want.Seq = 10
		d := x.device(t)
		expectStart(t, "trial", d, i, api.OK)
		expectRecord(t, "trial", d, want, api.OK)
	}
}
