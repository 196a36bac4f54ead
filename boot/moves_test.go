package boot_test

import (
	"math"
	"testing"

	"sapper/api"
	"sapper/boot"
)

// expectFirst: a First.
func expectFirst(t *testing.T, good api.Image, want api.Record, wantErr api.Errno) {
	t.Helper()
	r, err := boot.First(good)
	expectRecord(t, "First", r, err, want, wantErr)
}

// The chapter's examples 1 and 2.
func TestExamplesOfFirstAndOffer(t *testing.T) {
	expectFirst(t, image(0, 1, 3, 7), api.Record{Seq: 1, Good: image(0, 1, 3, 7)}, api.OK)
	expectFirst(t, image(2, 1, 3, 7), api.Record{}, api.ErrBootRecord)
	first, next := plain(), image(1, 2, 5, 9)
	expectOffer(t, first, next, 3, api.Record{Seq: 1, Good: first.Good, Next: next, Trial: 3}, api.OK)
	expectOffer(t, first, image(1, 0, 5, 9), 3, api.Record{}, api.ErrBootOld)
	expectOffer(t, first, image(0, 2, 5, 9), 3, api.Record{}, api.ErrBootRecord)
	expectOffer(t, first, next, 0, api.Record{}, api.ErrArg)
}

// P25.4: each field of the image, at its edges.
func TestFirst(t *testing.T) {
	for _, slot := range []int{math.MinInt, -1, 0, 1, 2, 256, math.MaxInt} {
		for _, version := range []int{math.MinInt, -1, 0, 1, 2, topVersion, topVersion + 1, 1<<32 + 1, math.MaxInt} {
			for _, size := range []int{math.MinInt, -1, 0, 1, topSize, topSize + 1, 1 << 32, math.MaxInt} {
				for _, sum := range []uint32{0, 7, math.MaxUint32} {
					i := image(slot, version, size, sum)
					if (slot == 0 || slot == 1) && version >= 1 && version <= topVersion && size >= 0 && size <= topSize {
						expectFirst(t, i, api.Record{Seq: 1, Good: i}, api.OK)
					} else {
						expectFirst(t, i, api.Record{}, api.ErrBootRecord)
					}
				}
			}
		}
	}
}

// expectOffer: an Offer.
func expectOffer(t *testing.T, r api.Record, next api.Image, tries int, want api.Record, wantErr api.Errno) {
	t.Helper()
	got, err := boot.Offer(r, next, tries)
	if got != want || err != wantErr {
		t.Errorf("Offer(%v, %v, %d): %v, %v, not %v, %v", r, next, tries, got, err, want, wantErr)
	}
}

// P25.5: the order of errors: an r that may not be, wrong tries, an elder Version, a Next that may not be.
func TestOfferOrder(t *testing.T) {
	good := image(0, 3, 3, 7)
	r := api.Record{Seq: 4, Good: good, Next: image(1, 3, 1, 1), Trial: 1}
	for _, tries := range []int{0, -1, math.MinInt, topTries + 1, 256 + 1, math.MaxInt} {
		for _, next := range []api.Image{image(1, 3, 5, 9), image(1, 2, 5, 9), image(0, 2, 5, 9), image(0, 3, 5, 9), {}} {
			expectOffer(t, r, next, tries, api.Record{}, api.ErrArg)
			for _, c := range edges() {
				if !c.may {
					expectOffer(t, c.r, next, tries, api.Record{}, api.ErrBootRecord)
				}
			}
		}
	}
	for _, c := range edges() {
		if !c.may {
			// Nothing else is wrong; or an elder Version; or a Next that may not be.
			expectOffer(t, c.r, image(1-c.r.Good.Slot, topVersion, 5, 9), 3, api.Record{}, api.ErrBootRecord)
			expectOffer(t, c.r, api.Image{}, 3, api.Record{}, api.ErrBootRecord)
			expectOffer(t, c.r, image(2, topVersion, 5, 9), 3, api.Record{}, api.ErrBootRecord)
		}
	}
	for _, version := range []int{math.MinInt, -1, 0, 1, 2} {
		for _, next := range []api.Image{image(1, version, 5, 9), image(0, version, 5, 9), image(2, version, -1, 9), image(-1, version, topSize+1, 0)} {
			expectOffer(t, r, next, 3, api.Record{}, api.ErrBootOld)
		}
	}
	expectOffer(t, r, api.Image{}, 3, api.Record{}, api.ErrBootOld)
}

// P25.5: tries and the fields of Next at their edges, over a record without a Next and with one, on either slot.
func TestOffer(t *testing.T) {
	for _, slot := range []int{0, 1} {
		good := image(slot, 3, 3, 7)
		for _, r := range []api.Record{{Seq: 4, Good: good}, {Seq: 1, Good: good, Next: image(1-slot, 9, 8, 7), Trial: 2}, {Seq: topSeq, Good: good, Next: image(1-slot, topVersion, 0, 0)}} {
			for _, tries := range []int{1, 2, topTries - 1, topTries} {
				for _, version := range []int{3, 4, 8, topVersion} {
					for _, size := range []int{0, 1, topSize} {
						for _, sum := range []uint32{0, math.MaxUint32} {
							next := image(1-slot, version, size, sum)
							expectOffer(t, r, next, tries, api.Record{Seq: r.Seq, Good: good, Next: next, Trial: tries}, api.OK)
						}
					}
				}
			}
			for _, next := range []api.Image{image(slot, 3, 5, 9), image(2, 3, 5, 9), image(-1, 3, 5, 9), image(math.MaxInt, 3, 5, 9), image(1-slot, topVersion+1, 5, 9), image(1-slot, math.MaxInt, 5, 9), image(1-slot, 3, -1, 9), image(1-slot, 3, topSize+1, 9), image(1-slot, 3, math.MinInt, 9), good} {
				expectOffer(t, r, next, 1, api.Record{}, api.ErrBootRecord)
			}
		}
	}
}

// expectStart: a Start.
func expectStart(t *testing.T, r, want api.Record, i api.Image, wantErr api.Errno) {
	t.Helper()
	got, run, err := boot.Start(r)
	if got != want || run != i || err != wantErr {
		t.Errorf("Start(%v): %v, %v, %v, not %v, %v, %v", r, got, run, err, want, i, wantErr)
	}
}

// The chapter's examples 3 and 4.
func TestExamplesOfStartAndConfirm(t *testing.T) {
	r := trial()
	for left := 2; left >= 0; left-- {
		want := trial()
		want.Trial = left
		expectStart(t, r, want, r.Next, api.OK)
		r = want
	}
	expectStart(t, r, api.Record{Seq: 2, Good: r.Good}, r.Good, api.OK)
	expectConfirm(t, trial(), api.Record{Seq: 2, Good: trial().Next}, api.OK)
	expectConfirm(t, plain(), api.Record{}, api.ErrBootPhase)
}

// P25.6: without a Next, and with one, with all trials.
func TestStart(t *testing.T) {
	for _, seq := range []int{1, 2, topSeq} {
		for _, slot := range []int{0, 1} {
			for _, version := range []int{1, 5, topVersion} {
				good, next := image(slot, version, topSize, 7), image(1-slot, topVersion, 0, 0)
				r := api.Record{Seq: seq, Good: good}
				expectStart(t, r, r, good, api.OK)
				r.Next = next
				expectStart(t, r, api.Record{Seq: seq, Good: good}, good, api.OK)
				for left := 1; left <= topTries; left++ {
					r.Trial = left
					want := r
					want.Trial = left - 1
					expectStart(t, r, want, next, api.OK)
				}
			}
		}
	}
	for _, c := range edges() {
		if !c.may {
			expectStart(t, c.r, api.Record{}, api.Image{}, api.ErrBootRecord)
		}
	}
}

// expectConfirm: a Confirm.
func expectConfirm(t *testing.T, r, want api.Record, wantErr api.Errno) {
	t.Helper()
	got, err := boot.Confirm(r)
	if got != want || err != wantErr {
		t.Errorf("Confirm(%v): %v, %v, not %v, %v", r, got, err, want, wantErr)
	}
}

// P25.7: with a Next and each number of trials left, also none; without a Next.
func TestConfirm(t *testing.T) {
	for _, seq := range []int{1, 2, topSeq} {
		for _, slot := range []int{0, 1} {
			for _, version := range []int{1, 5, topVersion} {
				good, next := image(slot, version, topSize, 7), image(1-slot, topVersion, 0, 0)
				expectConfirm(t, api.Record{Seq: seq, Good: good}, api.Record{}, api.ErrBootPhase)
				for left := range topTries + 1 {
					expectConfirm(t, api.Record{Seq: seq, Good: good, Next: next, Trial: left}, api.Record{Seq: seq, Good: next}, api.OK)
				}
			}
		}
	}
	for _, c := range edges() {
		if !c.may {
			expectConfirm(t, c.r, api.Record{}, api.ErrBootRecord)
		}
	}
}

// P25.4 to P25.7: drawn records, images and tries against the chapter's words.
func TestMovesDrawn(t *testing.T) {
	r := rolls(10)
	count := map[string]map[api.Errno]int{"First": {}, "Offer": {}, "Start": {}, "Confirm": {}}
	for range 100000 {
		x := r.any()
		want, wantErr := modelFirst(x.Good)
		expectFirst(t, x.Good, want, wantErr)
		count["First"][wantErr]++

		next, tries := r.turned(api.Record{Next: r.next(r.good())}).Next, r.of(1, 1, topTries, r.below(topTries+2), r.edge())
		if r.below(2) == 0 && modelMay(x) {
			next = r.next(x.Good)
			if r.below(3) == 0 {
				next.Version -= r.of(1, 2, next.Version)
			}
		}
		want, wantErr = modelOffer(x, next, tries)
		expectOffer(t, x, next, tries, want, wantErr)
		count["Offer"][wantErr]++

		want, i, wantErr := modelStart(x)
		expectStart(t, x, want, i, wantErr)
		count["Start"][wantErr]++

		want, wantErr = modelConfirm(x)
		expectConfirm(t, x, want, wantErr)
		count["Confirm"][wantErr]++
	}
	for name, l := range map[string][]api.Errno{"First": {api.OK, api.ErrBootRecord}, "Offer": {api.OK, api.ErrBootRecord, api.ErrArg, api.ErrBootOld}, "Start": {api.OK, api.ErrBootRecord}, "Confirm": {api.OK, api.ErrBootRecord, api.ErrBootPhase}} {
		for _, err := range l {
			if count[name][err] < 2000 {
				t.Error(name, err, count[name])
			}
		}
	}
}
