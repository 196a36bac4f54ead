package device_test

import (
	"bytes"
	"fmt"
	"slices"
	"testing"

	"sapper/api"
	"sapper/boot"
	"sapper/device"
)

// life is a device that goes through drawn calls, all of which keep the premise T, and what must hold of it.
type life struct {
	t     *testing.T
	r     *rolls
	c     counts
	d     *device.Device
	s     api.Shape
	bytes map[api.Image][]byte // what each image must have
	rest  []byte               // of the patch that is being fed
	next  []byte               // what it leads to
	last  api.Record           // the newest record
	tries int                  // for which the last offer was made
	runs  int                  // how often that one was started
	gone  string               // the call by which the power has gone, as long as it is not back
	did   []string
}

// born: a new one.
func born(t *testing.T, r *rolls, c counts) *life {
	t.Helper()
	s := r.shape()
	b, version := r.image(s.Page*s.Pages), r.of(1, 1, 5, topVersion-1, topVersion)
	l := &life{t: t, r: r, c: c, d: mustNew(t, s, b, version), s: s, bytes: map[api.Image][]byte{}}
	l.last.Good = imageOf(0, version, b)
	l.last.Seq = 1
	l.bytes[l.last.Good] = b
	return l
}

// fail: with all that was done.
func (l *life) fail(words ...any) {
	l.t.Helper()
	l.t.Fatalf("%v: %v", l.did, fmt.Sprintln(words...))
}

// guess: the record that a call is going to write, if it writes one.
func (l *life) guess(call string) api.Record {
	r := l.last
	switch call {
	case "Start":
		r, _, _ = boot.Start(r)
	case "Begin":
		r.Next, r.Trial = api.Image{}, 0
	case "Finish":
		r.Next, r.Trial = imageOf(1-r.Good.Slot, l.version(), l.next), 2
	case "Confirm":
		r, _ = boot.Confirm(r)
	}
	r.Seq = l.last.Seq + 1
	return r
}

// version: that of the image which is being offered.
func (l *life) version() int { return min(l.last.Good.Version+1, topVersion) }

// cut: the power is to go at one of the next operations: with torn bytes that are no record, or with the one that is being written, by the call that follows right now.
func (l *life) cut(call string) {
	n, torn := l.r.of(1, 1, 2, 2, 3, 4, 5, 6, 8), l.r.data(l.r.below(l.s.Page+1))
	switch b, err := boot.Encode(l.guess(call)); {
	case err != api.OK || l.r.below(4) == 0:
	case l.r.below(2) == 0:
		torn = b[:l.r.below(len(b))]
	default:
		torn = b
	}
	ok(l.t, l.d.Cut(n, torn))
}

// call: one of them, with or without a cut on its way, and what must hold behind it.
func (l *life) call(name string, do func() api.Errno) {
	l.t.Helper()
	ran, was := l.d.Running()
	log := len(l.d.Log())
	if l.d.On() {
		l.gone = ""
		if l.r.below(4) == 0 {
			l.cut(name)
		}
	}
	err := do()
	l.did = append(l.did, fmt.Sprint(name, " ", int(err)))
	l.c[l.did[len(l.did)-1]]++
	for _, op := range l.d.Log()[log:] {
		if name != "Start" && was && op.Area == ran.Slot || name == "Start" && op.Area != 2 {
			l.fail("an operation", op, "while", ran, was, "runs")
		}
	}
	if !l.d.On() {
		if _, runs := l.d.Running(); runs || l.d.Held() != 0 {
			l.fail("something goes on without power")
		}
		if l.gone == "" {
			l.gone = name
		}
		if l.r.below(3) == 0 {
			return
		}
		l.d.Power()
	}
	ok(l.t, l.d.Cut(0, nil))
	// What has become of the record is of the call by which the power has gone, though it is seen behind others.
	if l.gone != "" {
		name = l.gone
	}
	l.hold(name)
}

// hold: P26.8 and P26.9, of the record, the image that runs, and the starts of an offer.
func (l *life) hold(name string) {
	l.t.Helper()
	r, err := l.d.Record()
	if err != api.OK {
		l.fail("no record", err)
	}
	if b, err := l.d.Image(r.Good); err != api.OK || !bytes.Equal(b, l.bytes[r.Good]) {
		l.fail("the good image", r.Good, err)
	}
	if r.Good != l.last.Good && (name != "Confirm" || r.Good != l.last.Next) || r.Good.Version < l.last.Good.Version {
		l.fail("the good image was", l.last.Good, "is", r.Good)
	}
	if name == "Finish" && r.Seq > l.last.Seq {
		l.bytes[r.Next] = l.next
		l.tries, l.runs = r.Trial, 0
	}
	if r.Next != (api.Image{}) && (l.runs > l.tries || r.Trial > l.tries-l.runs) {
		l.fail(l.runs, "starts of", l.tries, r)
	}
	if i, runs := l.d.Running(); runs {
		if b, err := l.d.Image(i); err != api.OK || !bytes.Equal(b, l.bytes[i]) {
			l.fail("the image that runs", i, err)
		}
		if i != r.Good && i != r.Next {
			l.fail("what runs is neither good nor on trial", i, r)
		}
	}
	l.last = r
}

// start: P26.8: it answers OK, if no cut comes, and an image that is good, or was on trial with a start left.
func (l *life) start() {
	l.call("Start", func() api.Errno {
		had := l.d.On()
		i, err := l.d.Start()
		if had && l.d.On() && err != api.OK || !had && err != api.ErrFlashPower {
			l.fail("Start", err)
		}
		if err == api.OK {
			if i != l.last.Good && (i != l.last.Next || l.last.Trial < 1) {
				l.fail("Start", i, l.last)
			}
			if i == l.last.Next {
				l.runs++
			}
		}
		return err
	})
}

// power: it comes back, if it has gone.
func (l *life) power() {
	l.call("Power", func() api.Errno {
		l.d.Power()
		return api.OK
	})
}

// step: a drawn call.
func (l *life) step() {
	switch l.r.below(10) {
	case 0, 1, 2:
		l.start()
	case 3, 4:
		l.call("Begin", func() api.Errno { return l.d.Begin(64, 100) })
		if _, is := l.d.Updating(); is {
			l.next = l.r.like(l.bytes[l.last.Good], l.s.Page*l.s.Pages)
			l.rest = mustGenerate(l.t, l.bytes[l.last.Good], l.next, usual())
		}
		fallthrough
	case 5:
		b := l.rest[:min(len(l.rest), l.r.of(0, 10, 1000, 1000))]
		l.rest = l.rest[len(b):]
		l.call("Feed", func() api.Errno { return l.d.Feed(b) })
		fallthrough
	case 6:
		l.call("Finish", func() api.Errno {
			_, err := l.d.Finish(l.version(), 2)
			return err
		})
	case 7:
		l.call("Confirm", func() api.Errno {
			_, err := l.d.Confirm()
			return err
		})
	case 8:
		l.power()
	case 9:
		b, err := l.d.Save()
		if err == api.OK {
			l.d = mustLoad(l.t, b)
			l.did = append(l.did, "reload")
			l.hold("reload")
		}
	}
}

// P26.8, P26.9, P26.11, G10: over drawn rows of calls that keep T.
func TestLives(t *testing.T) {
	r := rolls(30)
	c := counts{}
	for range 1500 {
		l := born(t, &r, c)
		for range 40 {
			l.step()
		}
		l.power()
		l.start()
	}
	c.least(t, 500, "Start 0", "Start 213", "Begin 0", "Feed 0", "Finish 0", "Confirm 0")
	c.least(t, 50, "Begin 213", "Feed 245", "Finish 213", "Finish 245", "Confirm 213")
}

// P26.9: an image that is offered for one to three starts, behind each row of five Starts, each of which is whole, or cut at either operation, with the record that is being written torn or whole: it is started as often as that at the most.
func TestStartsOfAnOffer(t *testing.T) {
	for tries := 1; tries <= 3; tries++ {
		first := mustSave(t, offered(t, tries))
		for row := range 5 * 5 * 5 * 5 * 5 {
			d := mustLoad(t, first)
			count := 0
			ways := row
			for range 5 {
				r, err := d.Record()
				ok(t, err)
				kind := ways % 5
				ways /= 5
				if kind > 0 {
					then, _, err := boot.Start(r)
					ok(t, err)
					then.Seq++
					// The last byte is missing, or is there.
					ok(t, d.Cut(1+(kind-1)/2, bytesOf(t, then)[:42+(kind-1)%2]))
				}
				i, err := d.Start()
				if err == api.OK && i == newImage {
					count++
				}
				if err == api.OK && i != newImage && (i != oldImage || r.Trial > 0) {
					t.Fatalf("%v was started behind %v", i, r)
				}
				d.Power()
				ok(t, d.Cut(0, nil))
			}
			if count > tries {
				t.Fatalf("%d: %d starts of %d", row, count, tries)
			}
		}
	}
}

// P26.10: rounds of updates, one behind the other, of a device that New made, or Load now and then: each in pieces, with a version not below, is started, runs, is confirmed, and is the good one then.
func TestRounds(t *testing.T) {
	r := rolls(31)
	for range 60 {
		s := r.shape()
		old, version := r.image(s.Page*s.Pages), r.of(1, 2, topVersion-3)
		d := mustNew(t, s, old, version)
		good := imageOf(0, version, old)
		expectStart(t, "round", d, good, api.OK)
		for range 8 {
			next := r.like(old, s.Page*s.Pages)
			if r.below(3) == 0 {
				next = r.image(s.Page * s.Pages)
			}
			ok(t, d.Begin(r.of(64, 100), r.of(100, 200)))
			for part := range slices.Chunk(mustGenerate(t, old, next, usual()), 1+r.below(100)) {
				ok(t, d.Feed(part))
			}
			tries := 1 + r.below(topTries)
			version = min(topVersion, version+r.below(3))
			then := imageOf(1-good.Slot, version, next)
			ahead, err := d.Record()
			ok(t, err)
			want := api.Record{Seq: ahead.Seq + 1, Good: good, Next: then, Trial: tries}
			if rec, err := d.Finish(version, tries); rec != want || err != api.OK {
				t.Fatalf("Finish: %v, %v, not %v", rec, err, want)
			}
			if r.below(3) == 0 {
				d = mustLoad(t, mustSave(t, d))
			}
			expectStart(t, "round", d, then, api.OK)
			expectDoing(t, "round", d, then, false)
			expectImage(t, "round", d, then, next)
			want = api.Record{Seq: ahead.Seq + 3, Good: then}
			if rec, err := d.Confirm(); rec != want || err != api.OK {
				t.Fatalf("Confirm: %v, %v, not %v", rec, err, want)
			}
			expectRecord(t, "round", d, want, api.OK)
			expectDoing(t, "round", d, then, false)
			if r.below(2) == 0 {
				expectStart(t, "round", d, then, api.OK)
			}
			good, old = then, next
		}
	}
}

// P26.8, G10: a round of an update that is cut at each of its operations, with torn bytes of all kinds: behind Power a whole round goes through.
func TestRoundCutAnywhere(t *testing.T) {
	r := rolls(32)
	old, next := r.data(150), r.data(180)
	p := mustGenerate(t, old, next, usual())
	round := func(d *device.Device) (api.Record, api.Errno) {
		d.Start()
		d.Begin(64, 100)
		d.Feed(p)
		if _, err := d.Finish(2, 3); err != api.OK {
			return api.Record{}, err
		}
		if _, err := d.Start(); err != api.OK {
			return api.Record{}, err
		}
		return d.Confirm()
	}
	const ops = 6 + 3*2 // three pages, an offer, a start, a confirmation
	for n := 1; n <= ops+1; n++ {
		for range 20 {
			d := mustNew(t, shape(64, 3), old, 1)
			ok(t, d.Cut(n, r.data(r.below(65))))
			_, err := round(d)
			if (err == api.OK) != (n > ops) || d.On() != (n > ops) {
				t.Fatalf("cut at %d: %v, %v", n, err, d.On())
			}
			if n > ops {
				continue
			}
			d.Power()
			rec, err := d.Record()
			ok(t, err)
			if rec.Next == (api.Image{}) {
				rec, err = round(d)
			} else {
				expectStart(t, "offered", d, imageOf(1, 2, next), api.OK)
				rec, err = d.Confirm()
			}
			if rec.Good != imageOf(1, 2, next) || err != api.OK {
				t.Fatalf("cut at %d: %v, %v", n, rec, err)
			}
			expectImage(t, "behind it", d, rec.Good, next)
		}
	}
}

// P26.13: what Save answers of a device behind any calls Load takes: the same record and images, and Start of both answers the same, if no cut is planned.
func TestSaveDrawn(t *testing.T) {
	r := rolls(33)
	c := counts{}
	for range 1500 {
		x := r.bare(t)
		p := pair{t: t, x: x, c: counts{}}
		b, err := x.flash(t).Save()
		ok(t, err)
		p.d = mustLoad(t, b)
		p.m, err = modelLoad(b)
		ok(t, err)
		for range r.below(12) {
			p.step(&r)
		}
		b, err = p.d.Save()
		c[fmt.Sprint("Save ", int(err))]++
		if err != api.OK {
			continue
		}
		ok(t, p.d.Cut(0, nil))
		y := mustLoad(t, b)
		rec, recErr := p.d.Record()
		expectRecord(t, "loaded", y, rec, recErr)
		for _, i := range []api.Image{rec.Good, rec.Next, r.bent(rec.Good, 64)} {
			b, err := p.d.Image(i)
			if got, gotErr := y.Image(i); !bytes.Equal(got, b) || gotErr != err {
				t.Fatalf("Image(%v): %x, %v, not %x, %v", i, got, gotErr, b, err)
			}
		}
		i, err := p.d.Start()
		c[fmt.Sprint("Start ", int(err))]++
		expectStart(t, "loaded", y, i, err)
		if !bytes.Equal(mustSave(t, y), mustSave(t, p.d)) {
			t.Fatal("they differ behind Start")
		}
	}
	c.least(t, 20, "Save 0", "Save 213", "Start 0", "Start 214", "Start 250", "Start 251", "Start 261")
}
