package apply_test

import (
	"bytes"
	"fmt"
	"slices"
	"testing"

	"sapper/api"
	"sapper/cutter"
	"sapper/flash"
	"sapper/frame"
	"sapper/maker"
)

// counts: how often each thing came about.
type counts map[string]int

// least: each of these came about so often, at the least.
func (c counts) least(t *testing.T, n int, names ...string) {
	t.Helper()
	for _, name := range names {
		if c[name] < n {
			t.Errorf("%s: %d times", name, c[name])
		}
	}
}

// P24.1 to P24.5: drawn patches in drawn pieces, with drawn calls of the flash between them, and now and then a Finish too early or a Feed too late: each answer, all that is told and all of the flash against the chapter's words.
func TestRowsOfCalls(t *testing.T) {
	r := rolls(3)
	c := counts{}
	for range 3500 {
		d := r.draw(t)
		x := d.pair(t)
		often := r.of(5, 20, 1000, 1000)
		early := r.of(10, 1000, 1000)
		for _, part := range r.pieces(d.patch) {
			if r.below(often) == 0 {
				do := r.between(d.shape)
				do(x.f)
				do(x.g)
				x.hold("another call")
			}
			if r.below(early) == 0 {
				x.finish()
			}
			c[fmt.Sprint("Feed ", int(x.feed(part)))]++
		}
		for range 1 + r.below(3) {
			c[fmt.Sprint("Finish ", int(x.finish()))]++
		}
		c[fmt.Sprint("Feed ", int(x.feed(r.data(r.below(4)))))]++
		x.whole()
	}
	c.least(t, 50, "Feed 0", "Feed 240", "Feed 241", "Feed 242", "Feed 243", "Feed 244", "Feed 245", "Feed 246")
	c.least(t, 50, "Finish 0", "Finish 240", "Finish 241", "Finish 242", "Finish 243", "Finish 244", "Finish 245", "Finish 246")
}

// P24.1 to P24.5: each byte of a patch written over by any value, with the sums behind it put right or not; each byte taken out; against the chapter's words.
func TestEachByte(t *testing.T) {
	old, _, h, l := base()
	for i := range l {
		var w api.Window
		w.Pos, w.Edit.Diff, w.Edit.Extra = l[i].pos, l[i].packed[1], l[i].packed[2]
		if len(w.Edit.Diff) > 0 {
			w.Edit.Diff = w.Edit.Diff[5:]
		}
		if len(w.Edit.Extra) > 0 {
			w.Edit.Extra = w.Edit.Extra[5:]
		}
		steps, err := cutter.Uncontrol(l[i].packed[0][5:])
		ok(t, err)
		w.Edit.Steps = steps
		l[i] = pressed(t, w, usual().Press)
	}
	patch := patchOf(h, l[:]...)
	head := len(headBytes(h))
	r := rolls(4)
	play := func(p []byte) {
		x := pairOf(t, mustFlash(t, shape(64, 4), 0, old), mustFlash(t, shape(64, 4), 0, old), 64, 100)
		step := 1 + r.below(len(p))
		for part := range slices.Chunk(p, step) {
			x.feed(part)
		}
		x.finish()
	}
	right := func(p []byte, at int) []byte {
		p = slices.Clone(p)
		if at < head-4 {
			copy(p[head-4:], four(sumOf(p[:head-4])))
		}
		return sealed(p[:len(p)-4])
	}
	for at := range patch {
		for range 12 {
			p := slices.Clone(patch)
			p[at] = byte(r.below(256))
			play(p)
			play(right(p, at))
		}
		p := slices.Delete(slices.Clone(patch), at, at+1)
		play(p)
		play(sealed(p[:len(p)-4]))
	}
}

// meaningOf: P24.6: what a patch makes over the bytes of an old slot; false: it is none, it does not fit, is for another image, reads outside of it, or makes bytes of another sum.
func meaningOf(patch, slot []byte, window, look int) ([]byte, bool) {
	h, l, err := frame.Decode(patch)
	if err != api.OK {
		return nil, false
	}
	if h.Window > window || h.Look > look || h.Old > len(slot) || h.New > len(slot) {
		return nil, false
	}
	old := slot[:h.Old]
	if sumOf(old) != h.OldSum {
		return nil, false
	}
	var out []byte
	for i, w := range l {
		b, err := cutter.Apply(old, w, frame.Size(h, i))
		if err != api.OK {
			return nil, false
		}
		out = append(out, b...)
	}
	return out, sumOf(out) == h.NewSum
}

// P24.6: Finish answers OK just if the bytes are a patch that fits and means something over the old slot, and the flash has refused nothing; then the new slot begins with what it means. Over drawn patches, with and without a cut.
func TestJustThePatches(t *testing.T) {
	r := rolls(5)
	c := counts{}
	for range 6000 {
		d := r.draw(t)
		f := d.flash(t)
		slot := slotOf(t, f, d.active)
		want, is := meaningOf(d.patch, slot, d.window, d.look)
		a := mustNew(t, f, d.window, d.look)
		if r.below(3) == 0 {
			ok(t, f.Cut(1+r.below(8), r.data(r.below(65))))
		}
		for _, part := range r.pieces(d.patch) {
			a.Feed(part)
		}
		err := a.Finish()
		if (err == api.OK) != (is && f.On()) || a.Committed() != (err == api.OK) {
			t.Fatalf("% x over %x: %v, %v, means %x, %v", d.patch, slot, err, f.On(), want, is)
		}
		if err == api.OK {
			expectRead(t, f, 1-d.active, want)
			if a.Made() != len(want) {
				t.Fatalf("Made %d, not %d", a.Made(), len(want))
			}
		}
		c[fmt.Sprint(is, f.On())]++
		f.Power()
		if !bytes.Equal(slotOf(t, f, d.active), slot) {
			t.Fatalf("the old slot has changed")
		}
	}
	c.least(t, 100, "true true", "true false", "false true", "false false")
}

// G1: Meaning of what Generate makes is the new image: so is what the applier writes, for drawn images and options, and pieces of any size.
func TestRoundTrip(t *testing.T) {
	r := rolls(6)
	for range 600 {
		s := r.shape()
		slot := s.Page * s.Pages
		old := r.data(r.below(slot + 1))
		next, o := r.like(old, slot), r.options()
		patch := mustGenerate(t, old, next, o)
		b, err := maker.Meaning(patch, old)
		ok(t, err)
		x := trial{shape: s, active: r.below(2), old: old, window: o.Window, look: o.Press.Look.Window, patch: patch}
		f, a := x.start(t)
		for _, part := range r.pieces(patch) {
			ok(t, a.Feed(part))
		}
		ok(t, a.Finish())
		expectRead(t, f, 1-x.active, b)
		if !bytes.Equal(b, next) {
			t.Fatalf("%x, not %x", b, next)
		}
	}
}

// troubles: a cut, and a page that is worn, or neither: the same at each call.
func (r *rolls) troubles(s api.Shape) func(t *testing.T, f *flash.Flash) {
	n, torn, worn, at := r.below(2)*(1+r.below(2*s.Pages+1)), r.data(r.below(s.Page+1)), r.below(4) == 0, r.below(s.Pages)
	return func(t *testing.T, f *flash.Flash) {
		if worn {
			ok(t, f.Erase(1-f.Active(), at), f.Erase(1-f.Active(), at), f.Limit(2))
		}
		ok(t, f.Cut(n, torn))
	}
}

// P24.7: the same patch byte by byte, in one, and in drawn pieces, with a cut, a worn page or neither: the same error, answered by the Feed with the same byte, or by Finish; the same log and flash, Made, Head, Err and Committed.
func TestAnyPieces(t *testing.T) {
	r := rolls(7)
	c := counts{}
	for range 2500 {
		d := r.draw(t)
		do := r.troubles(d.shape)
		run := func(pieces [][]byte) (string, int, api.Errno) {
			f := d.flash(t)
			do(t, f)
			a := mustNew(t, f, d.window, d.look)
			at, where := 0, -1
			for _, part := range pieces {
				err := a.Feed(part)
				if err != api.OK && where < 0 {
					where = at
				}
				at += len(part)
			}
			err := a.Finish()
			f.Power()
			return fmt.Sprint(int(err), " ", answersOf(a), " ", toldOf(f)), where, err
		}
		var single [][]byte
		for i := range d.patch {
			single = append(single, d.patch[i:i+1])
		}
		want, at, err := run(single)
		c[fmt.Sprint(int(err))]++
		for _, pieces := range [][][]byte{{d.patch}, {nil, d.patch, {}}, r.pieces(d.patch), r.pieces(d.patch)} {
			got, where, _ := run(pieces)
			if got != want {
				t.Fatalf("% x: %s, not %s", d.patch, got, want)
			}
			// The Feed that was refused is the one with that byte.
			from, failed := 0, -1
			for _, part := range pieces {
				if at >= from && at < from+len(part) {
					failed = from
				}
				from += len(part)
			}
			if where != failed {
				t.Fatalf("% x: refused from %d on, not %d", d.patch, where, failed)
			}
		}
	}
	c.least(t, 20, "0", "240", "241", "242", "243", "244", "245")
}

// P24.8: behind each Feed: what the log has more is an Erase and a Program of page 0 of the new slot, of page 1, and so on; no byte of the old slot has changed; Held is Bound. Behind a cut a new applier that is fed a patch for the old image commits.
func TestFlashBehindEachFeed(t *testing.T) {
	r := rolls(8)
	cut, ops := 0, 0
	for range 1200 {
		d := r.draw(t)
		f := d.flash(t)
		r.troubles(d.shape)(t, f)
		a := mustNew(t, f, d.window, d.look)
		bound := roomOf(d.shape.Page, d.window, d.look)
		from, slot := f.Ops(), slotOf(t, f, d.active)
		rest := slotOf(t, f, 1-d.active)
		hold := func() {
			own := f.Log()[from:]
			if !slices.Equal(own, inOrder(1-d.active, len(own))) {
				t.Fatalf("%v", own)
			}
			if a.Held() != bound || a.Bound() != bound {
				t.Fatalf("Held %d, Bound %d, not %d", a.Held(), a.Bound(), bound)
			}
			if !f.On() {
				return
			}
			if !bytes.Equal(slotOf(t, f, d.active), slot) {
				t.Fatal("the old slot has changed")
			}
			touched := (len(own) + 1) / 2 * d.shape.Page
			if b := slotOf(t, f, 1-d.active); !bytes.Equal(b[touched:], rest[touched:]) {
				t.Fatal("a page that comes later has changed")
			}
		}
		for _, part := range r.pieces(d.patch) {
			a.Feed(part)
			hold()
		}
		a.Finish()
		hold()
		ops += f.Ops() - from
		if f.On() {
			continue
		}
		cut++
		f.Power()
		hold()
		ok(t, f.Limit(0))
		from, rest = f.Ops(), slotOf(t, f, 1-d.active)
		old := slot[:r.below(len(slot)+1)]
		next := r.like(old, len(slot))
		again := mustNew(t, f, 65536, 32768)
		for _, part := range r.pieces(mustGenerate(t, old, next, r.options())) {
			ok(t, again.Feed(part))
		}
		ok(t, again.Finish())
		hold()
		expectRead(t, f, 1-d.active, next)
	}
	if cut < 80 || ops < 1000 {
		t.Error(cut, ops)
	}
}

// P24.5, P24.8: windows and looks at their ends, with patches that fill them: Held is Bound behind each Feed, byte by byte where they are small.
func TestHeldAtTheEnds(t *testing.T) {
	r := rolls(9)
	old := r.data(150000)
	next := slices.Concat(old[70000:], r.data(300), old[:70000], old[20000:20500])
	for i := 0; i < len(next); i += 1 + r.below(3000) {
		next[i]++
	}
	for _, c := range []struct{ window, look, step int }{
		{65536, 32768, 4099}, {65536, 1, 20000}, {65535, 32767, 1 << 20}, {4096, 32768, 333},
	} {
		o := api.Options{Window: c.window, Press: api.Press{Look: api.Look{Window: c.look, Chain: 2}, Block: 20000}}
		patch := mustGenerate(t, old, next, o)
		f := mustFlash(t, shape(4096, 40), 1, nil, old)
		a := mustNew(t, f, c.window, c.look)
		want := roomOf(4096, c.window, c.look)
		for part := range slices.Chunk(patch, c.step) {
			ok(t, a.Feed(part))
			if a.Held() != want || a.Bound() != want {
				t.Fatalf("%v: Held %d, Bound %d, not %d", c, a.Held(), a.Bound(), want)
			}
		}
		ok(t, a.Finish())
		expectRead(t, f, 0, next)
		if a.Held() != want || a.Made() != len(next) || !slices.Equal(f.Log(), inOrder(0, 2*((len(next)+4095)/4096))) {
			t.Errorf("%v: Held %d, Made %d, %d operations", c, a.Held(), a.Made(), f.Ops())
		}
	}
	for _, c := range [][2]int{{64, 1}, {64, 32768}, {65536, 1}, {65, 2}} {
		o := api.Options{Window: c[0], Press: api.Press{Look: api.Look{Window: c[1], Chain: 2}, Block: 100}}
		x := trial{shape: shape(64, 40), old: old[:2000], window: c[0], look: c[1], patch: mustGenerate(t, old[:2000], old[500:2560], o)}
		f, a := x.start(t)
		want := roomOf(64, c[0], c[1])
		for i := range x.patch {
			ok(t, a.Feed(x.patch[i:i+1]))
			if a.Held() != want || a.Bound() != want {
				t.Fatalf("%v: Held %d, Bound %d, not %d", c, a.Held(), a.Bound(), want)
			}
		}
		ok(t, a.Finish())
		expectRead(t, f, 1, old[500:2560])
	}
}
