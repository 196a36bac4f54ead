package device_test

import (
	"bytes"
	"fmt"
	"math"
	"slices"
	"testing"

	"sapper/api"
	"sapper/boot"
	"sapper/device"
)

// rolls: numbers that follow no pattern and are the same at each run.
type rolls uint64

// below: a number from 0 on, below n.
func (r *rolls) below(n int) int {
	*r = *r*6364136223846793005 + 1442695040888963407
	return int(uint64(*r>>33) % uint64(n))
}

// of: one of these.
func (r *rolls) of(l ...int) int { return l[r.below(len(l))] }

// data: n bytes.
func (r *rolls) data(n int) []byte {
	out := make([]byte, n)
	for i := range out {
		out[i] = byte(r.below(256))
	}
	return out
}

// shape: one of a few small pages.
func (r *rolls) shape() api.Shape { return shape(r.of(64, 64, 65, 100), r.of(1, 2, 3, 4)) }

// image: one of at most so many bytes.
func (r *rolls) image(most int) []byte {
	return r.data(min(most, r.of(0, 1, 8, 63, 64, 65, 128, most-1, most, r.below(most), r.below(most))))
}

// like: an image of at most so many bytes that is made of parts of another one, and of bytes between them.
func (r *rolls) like(old []byte, most int) []byte {
	var out []byte
	for range r.below(4) {
		from := r.below(len(old) + 1)
		out = append(out, old[from:min(len(old), from+r.below(120))]...)
		out = append(out, r.data(r.below(2)*r.below(20))...)
	}
	return out[:min(len(out), most)]
}

// bent: an image with a field that is otherwise.
func (r *rolls) bent(i api.Image, slot int) api.Image {
	switch r.below(6) {
	case 0:
		i.Slot = r.of(-1, 0, 1, 2, 3, math.MinInt, math.MaxInt)
	case 1:
		i.Size = r.of(-1, 0, slot-1, slot, slot+1, 1<<24, math.MinInt, math.MaxInt)
	case 2:
		i.Sum ^= 1 << r.below(32)
	case 3:
		i.Size += r.of(-1, 1)
	case 4:
		i.Version += r.of(-1, 1)
	}
	return i
}

// held: an image of so much of a slot's front as one likes; seldom one that does not hold.
func (r *rolls) held(slot, version int, b []byte, most int) api.Image {
	i := imageOf(slot, version, b[:r.below(len(b)+1)])
	for r.below(5) == 0 {
		x := r.bent(i, most)
		if x.Slot == i.Slot && x.Size >= 0 && x.Size <= 1<<24 && x.Version > 0 {
			return x
		}
	}
	return i
}

// record: one that may be, of images that stand in the slots, or seem to.
func (r *rolls) record(x bare) api.Record {
	most, g, v := x.shape.Page*x.shape.Pages, r.below(2), r.of(1, 2, 3, topVersion-2, topVersion)
	out := api.Record{Seq: r.of(1, 2, 3, 7, 7, topSeq-2, topSeq-1, topSeq), Good: r.held(g, v, x.slots[g], most)}
	if r.below(3) > 0 {
		out.Next = r.held(1-g, min(topVersion, v+r.below(3)), x.slots[1-g], most)
		out.Trial = r.of(0, 0, 1, 1, 2, 3, topTries)
	}
	if boot.Check(out) != api.OK {
		return r.record(x)
	}
	return out
}

// bare: a device as it lies there: with records of all kinds, or with none.
func (r *rolls) bare(t *testing.T) bare {
	x := bare{shape: r.shape(), active: r.below(2), limit: r.of(0, 0, 0, 0, 1, 1, 2, 2, 3, 3)}
	for slot := range x.slots {
		x.slots[slot] = r.image(x.shape.Page * x.shape.Pages)
	}
	for page := range x.pages {
		switch r.below(4) {
		case 0:
			x.pages[page] = r.torn(t, x)
		case 1, 2:
			x.pages[page] = bytesOf(t, r.record(x))
		}
	}
	return x
}

// torn: what a cut may leave at a page's front: none, any bytes, a record, or the beginning of one.
func (r *rolls) torn(t *testing.T, x bare) []byte {
	b := bytesOf(t, r.record(x))
	switch r.below(4) {
	case 0:
		return r.data(r.below(x.shape.Page + 1))
	case 1:
		return b[:r.below(len(b)+1)]
	case 2:
		return b
	}
	return nil
}

// counts: how often each thing came about.
type counts map[string]int

// least: each of these came about so often, at the least.
func (c counts) least(t *testing.T, n int, names ...string) {
	t.Helper()
	for _, name := range names {
		if c[name] < n {
			t.Errorf("%s: %d times", name, c[name])
		}
	}
}

// pair is a device, and one by the chapter's words, to which the same is done.
type pair struct {
	t    *testing.T
	x    bare // by which torn bytes are drawn
	d    *device.Device
	m    *model
	c    counts
	rest []byte // of the patch that is being fed
	did  []string
}

// hold: all that both tell.
func (p *pair) hold() {
	p.t.Helper()
	p.m.look()
	if got, want := toldOf(p.d), toldOf(p.m); got != want {
		p.t.Fatalf("%v:\n%s\nnot\n%s", p.did, got, want)
	}
}

// both: a call of both, whose answers must be the same.
func both[T any](p *pair, name string, do func(d devicer) (T, api.Errno)) (T, api.Errno) {
	p.t.Helper()
	got, err := do(p.d)
	want, wantErr := do(p.m)
	p.did = append(p.did, fmt.Sprint(name, " ", int(wantErr)))
	if fmt.Sprint(got) != fmt.Sprint(want) || err != wantErr {
		p.t.Fatalf("%v: %v, %v, not %v, %v", p.did, got, err, want, wantErr)
	}
	p.c[p.did[len(p.did)-1]]++
	p.hold()
	return want, wantErr
}

// plain: a call that answers an error alone.
func plain(p *pair, name string, do func(d devicer) api.Errno) api.Errno {
	p.t.Helper()
	_, err := both(p, name, func(d devicer) (int, api.Errno) { return 0, do(d) })
	return err
}

func (p *pair) start()   { both(p, "Start", devicer.Start) }
func (p *pair) confirm() { both(p, "Confirm", devicer.Confirm) }
func (p *pair) power() {
	plain(p, "Power", func(d devicer) api.Errno {
		d.Power()
		return api.OK
	})
}
func (p *pair) begin(window, look int) {
	plain(p, "Begin", func(d devicer) api.Errno { return d.Begin(window, look) })
}
func (p *pair) feed(b []byte) {
	plain(p, "Feed", func(d devicer) api.Errno { return d.Feed(b) })
}
func (p *pair) finish(version, tries int) {
	both(p, "Finish", func(d devicer) (api.Record, api.Errno) { return d.Finish(version, tries) })
}
func (p *pair) cut(n int, torn []byte) {
	plain(p, "Cut", func(d devicer) api.Errno { return d.Cut(n, torn) })
}
func (p *pair) image(i api.Image) {
	both(p, "Image", func(d devicer) ([]byte, api.Errno) { return d.Image(i) })
}

// reload: both anew, from what Save answers.
func (p *pair) reload() {
	p.t.Helper()
	b, err := both(p, "Save", devicer.Save)
	if err == api.OK {
		p.d = mustLoad(p.t, b)
		p.m, err = modelLoad(b)
		ok(p.t, err)
		p.hold()
	}
}

// draw: a patch for the good image, or for another one, or a bent one, which is to be fed from now on.
func (p *pair) draw(r *rolls) {
	rec, _ := p.m.Record()
	old, _ := p.m.Image(rec.Good)
	most := p.x.shape.Page * p.x.shape.Pages
	next := r.like(old, most)
	switch r.below(12) {
	case 0:
		old = r.data(r.below(most + 1))
	case 1:
		next = r.data(most + 1 + r.below(3))
	}
	o := usual()
	o.Window = r.of(64, 64, 100, 300)
	p.rest = mustGenerate(p.t, old, next, o)
	at := r.below(len(p.rest))
	switch r.below(12) {
	case 0, 1:
		p.rest[at] ^= 1 << r.below(8)
	case 2:
		p.rest = p.rest[:at]
	case 3:
		p.rest = append(p.rest, 0)
	}
}

// some: the next bytes of the patch, as many as it comes.
func (p *pair) some(r *rolls) []byte {
	n := min(len(p.rest), r.of(0, 1, 10, 64, 300, 1000, 1000))
	out := p.rest[:n]
	p.rest = p.rest[n:]
	return out
}

// offer: a whole update, by drawn pieces, and seldom with a cut on its way.
func (p *pair) offer(r *rolls) {
	p.draw(r)
	p.begin(r.of(64, 100, 300, 300, 300), r.of(50, 100, 100, 100, 1000))
	if r.below(4) == 0 {
		p.cut(1+r.below(10), r.torn(p.t, p.x))
	}
	for range 5 {
		p.feed(p.some(r))
	}
	p.feed(p.rest)
	for range 1 + r.below(2) {
		rec, _ := p.m.Record()
		p.finish(rec.Good.Version+r.of(0, 0, 1, 1, 2, -1), r.of(1, 1, 2, 3, topTries, 0, topTries+1))
	}
}

// step: a drawn call, or a whole update.
func (p *pair) step(r *rolls) {
	rec, _ := p.m.Record()
	most := p.x.shape.Page * p.x.shape.Pages
	switch r.below(24) {
	case 0, 1, 2, 3, 4:
		p.start()
	case 5, 6:
		p.confirm()
	case 7, 8, 9:
		p.offer(r)
	case 10, 11, 12:
		p.power()
	case 13:
		p.begin(r.of(63, 64, 300, 65536, 65537), r.of(0, 1, 100, 100, 32768, 32769))
		p.draw(r)
	case 14:
		p.feed(p.some(r))
	case 15:
		p.finish(r.of(rec.Good.Version, rec.Good.Version+1, 0, topVersion, topVersion+1), 1+r.below(3))
	case 16, 17:
		p.cut(r.of(0, 1, 2, 3, 4, -1), r.torn(p.t, p.x))
		if r.below(2) == 0 {
			p.start()
		}
	case 18:
		p.image(r.bent([]api.Image{rec.Good, rec.Next}[r.below(2)], most))
	case 19:
		p.reload()
	case 20, 21: // another update behind an offer
		p.offer(r)
		if r.below(2) == 0 {
			p.cut(1+r.below(2), r.torn(p.t, p.x))
		}
		p.begin(64, 100)
	case 22, 23: // a trial that is confirmed
		p.offer(r)
		p.start()
		if r.below(2) == 0 {
			p.cut(1+r.below(2), r.torn(p.t, p.x))
		}
		p.confirm()
	}
}

// P26.1 to P26.7, P26.12: rows of drawn calls, with cuts at any operation, of devices that New and Load made: each answer, and behind each call all that is told, against the chapter's words.
func TestRowsOfCalls(t *testing.T) {
	r := rolls(1)
	c := counts{}
	for range 2500 {
		p := pair{t: t, x: r.bare(t), c: c}
		if r.below(3) == 0 {
			b, version := r.image(p.x.shape.Page*p.x.shape.Pages), r.of(1, 1, 5, topVersion)
			p.d = mustNew(t, p.x.shape, b, version)
			m, err := modelNew(p.x.shape, b, version)
			ok(t, err)
			p.m = m
		} else {
			b, err := p.x.flash(t).Save()
			ok(t, err)
			p.d = mustLoad(t, b)
			p.m, err = modelLoad(b)
			ok(t, err)
		}
		p.hold()
		for range 4 + r.below(16) {
			p.step(&r)
		}
		p.power()
		p.start()
	}
	for name, l := range map[string][]int{
		"Start":   {0, 213, 214, 250, 251, 261},
		"Begin":   {0, 213, 214, 242, 250, 260},
		"Feed":    {0, 240, 241, 242, 244, 245, 246, 260},
		"Finish":  {0, 1, 213, 214, 240, 244, 245, 250, 252, 260},
		"Confirm": {0, 213, 214, 250, 260},
		"Cut":     {0, 1, 213},
		"Image":   {0, 213, 261},
		"Save":    {0, 213},
		"Power":   {0},
	} {
		for _, err := range l {
			c.least(t, 10, fmt.Sprint(name, " ", err))
		}
	}
}

// P26.1: New over drawn shapes, images and versions, against the chapter's words.
func TestNewDrawn(t *testing.T) {
	r := rolls(2)
	c := counts{}
	for range 3000 {
		s := shape(r.of(63, 64, 65, 100, 0, -1), r.of(0, 1, 2, 3, -1))
		b := r.data(max(0, r.of(0, 1, s.Page*s.Pages-1, s.Page*s.Pages, s.Page*s.Pages+1)))
		version := r.of(math.MinInt, -1, 0, 1, 1, 2, 2, topVersion, topVersion, topVersion+1, math.MaxInt)
		given, same := lent(b)
		d, err := device.New(s, given, version)
		if !same() {
			t.Fatal("what was handed in has changed")
		}
		spoil(given, 7)
		m, want := modelNew(s, b, version)
		c[fmt.Sprint(int(want))]++
		if err != want || (d != nil) != (m != nil) {
			t.Fatalf("New(%v, %d bytes, %d): %v, not %v", s, len(b), version, err, want)
		}
		if d != nil && toldOf(d) != toldOf(m) {
			t.Fatalf("New(%v, %d bytes, %d): %s, not %s", s, len(b), version, toldOf(d), toldOf(m))
		}
	}
	c.least(t, 100, "0", "210", "250")
}

// P26.12: Load of any bytes, and of such as are nearly a device's, against the chapter's words.
func TestLoadDrawn(t *testing.T) {
	r := rolls(3)
	c := counts{}
	for range 2000 {
		b, err := r.bare(t).flash(t).Save()
		ok(t, err)
		switch r.below(4) {
		case 0:
			b[r.below(len(b))] ^= 1 << r.below(8)
		case 1:
			b = b[:r.below(len(b))]
		case 2:
			b = r.data(r.below(100))
		}
		given, same := lent(b)
		d, err := device.Load(given)
		if !same() {
			t.Fatal("what was handed in has changed")
		}
		spoil(given, 7)
		m, want := modelLoad(b)
		c[fmt.Sprint(int(want))]++
		if err != want || (d != nil) != (m != nil) {
			t.Fatalf("Load(%x): %v, not %v", b, err, want)
		}
		if d != nil && (toldOf(d) != toldOf(m) || !bytes.Equal(mustSave(t, d), b) || len(d.Log()) != 0) {
			t.Fatalf("Load(%x): %s, not %s", b, toldOf(d), toldOf(m))
		}
	}
	c.least(t, 200, "0", "215")
}

// P26.7: Image of drawn images, over slots of which each beginning is one, against the chapter's words.
func TestImageDrawn(t *testing.T) {
	r := rolls(4)
	c := counts{}
	for range 300 {
		x := r.bare(t)
		d, m := x.device(t), &model{f: x.flash(t)}
		most := x.shape.Page * x.shape.Pages
		for range 30 {
			slot := r.below(2)
			whole := slices.Concat(x.slots[slot], bytes.Repeat([]byte{255}, most-len(x.slots[slot])))
			i := imageOf(slot, r.of(math.MinInt, -1, 0, 1, topVersion+1), whole[:r.of(0, 1, most-1, most, r.below(most+1))])
			if r.below(2) == 0 {
				i = r.bent(i, most)
			}
			b, err := d.Image(i)
			want, wantErr := m.Image(i)
			c[fmt.Sprint(int(wantErr))]++
			if !bytes.Equal(b, want) || err != wantErr {
				t.Fatalf("Image(%v): %x, %v, not %x, %v", i, b, err, want, wantErr)
			}
		}
	}
	c.least(t, 1000, "0", "261")
}
