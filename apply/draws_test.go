package apply_test

import (
	"slices"
	"testing"

	"sapper/api"
	"sapper/flash"
	"sapper/maker"
)

// rolls: numbers that follow no pattern and are the same at each run.
type rolls uint64

// below: a number from 0 on, below n.
func (r *rolls) below(n int) int {
	*r = *r*6364136223846793005 + 1442695040888963407
	return int(uint64(*r>>33) % uint64(n))
}

// of: one of these.
func (r *rolls) of(l ...int) int { return l[r.below(len(l))] }

// data: n bytes, of few kinds or of many.
func (r *rolls) data(n int) []byte {
	kinds := r.of(1, 2, 5, 256, 256)
	out := make([]byte, n)
	for i := range out {
		out[i] = byte(r.below(kinds))
	}
	return out
}

// shape: one of a few small pages.
func (r *rolls) shape() api.Shape { return shape(r.of(64, 64, 65, 100), r.of(1, 2, 3, 4, 7)) }

// image: one of at most so many bytes, seldom above that.
func (r *rolls) image(most int) []byte {
	if r.below(40) == 0 {
		return r.data(most + 1 + r.below(3))
	}
	return r.data(min(most, r.of(0, 1, 8, 63, 64, 65, 128, 129, most-1, most, r.below(most), r.below(most), r.below(most))))
}

// like: an image of at most so many bytes that is made of parts of another one, some of them changed, and of bytes between them.
func (r *rolls) like(old []byte, most int) []byte {
	var out []byte
	for range 1 + r.below(5) {
		from := r.below(len(old) + 1)
		part := slices.Clone(old[from:min(len(old), from+r.below(120))])
		for i := r.below(30); i < len(part); i += 1 + r.below(20) {
			part[i] += byte(r.below(256))
		}
		out = append(append(out, part...), r.data(r.below(2)*r.below(20))...)
	}
	return out[:min(len(out), most)]
}

// options: some that may be.
func (r *rolls) options() api.Options {
	o := api.Options{Window: r.of(64, 64, 65, 100, 128, 300, 65536)}
	o.Press.Look = api.Look{Window: r.of(1, 2, 30, 100, 300, 32768), Chain: r.of(0, 1, 2, 10), Lazy: r.below(2) == 0}
	o.Press.Block = r.of(20, 50, 100, 1000, 65536)
	return o
}

// window: one of so many bytes over an old image, in any steps; its places are now and then outside of it, if wild.
func (r *rolls) window(old, size int, wild bool) api.Window {
	out := api.Window{Pos: r.below(old + 1)}
	place, most := out.Pos, 1+r.below(40)
	for size > 0 {
		s := api.Step{Add: r.below(min(max(0, old-place), size, most) + 1)}
		if wild && r.below(20) == 0 {
			s.Add = r.below(min(size, most) + 1)
		}
		s.Copy = r.below(2) * r.below(min(size-s.Add, most)+1)
		if s.Add+s.Copy == 0 {
			s.Copy = 1
		}
		size -= s.Add + s.Copy
		place += s.Add
		to := r.below(old + 1)
		if wild && r.below(20) == 0 {
			to = r.of(old+1, old+2, old+r.below(200), 1<<24, 1<<24+1, -1)
		}
		if size > 0 && r.below(3) > 0 {
			s.Seek, place = to-place, to
		}
		out.Edit.Steps = append(out.Edit.Steps, s)
		out.Edit.Diff = append(out.Edit.Diff, r.data(s.Add)...)
		out.Edit.Extra = append(out.Edit.Extra, r.data(s.Copy)...)
	}
	return out
}

// sizesOf: how many bytes each of a header's windows makes.
func sizesOf(h api.Head) []int {
	var out []int
	for left := h.New; left > 0; left -= h.Window {
		out = append(out, min(left, h.Window))
	}
	return out
}

// madeOf: what windows make of an old image, behind which there is 255; a place outside of that counts as 0.
func madeOf(old []byte, l []api.Window) []byte {
	var out []byte
	for _, w := range l {
		place, diff, extra := w.Pos, w.Edit.Diff, w.Edit.Extra
		for _, s := range w.Edit.Steps {
			for range s.Add {
				v := diff[0]
				if place >= 0 && place < len(old) {
					v += old[place]
				}
				out, diff, place = append(out, v), diff[1:], place+1
			}
			out, extra, place = append(out, extra[:s.Copy]...), extra[s.Copy:], place+s.Seek
		}
	}
	return out
}

// drawn: a device, and a patch that is fed into an applier over it.
type drawn struct {
	shape        api.Shape
	active       int
	slots        [2][]byte
	window, look int
	patch        []byte
}

// draw: a device, and a patch for it: as it should be, with another header, with a frame that is bent, with bytes turned, missing and added, or bytes that are no patch.
func (r *rolls) draw(t *testing.T) drawn {
	t.Helper()
	d := drawn{shape: r.shape(), active: r.below(2)}
	slot := d.shape.Page * d.shape.Pages
	old := r.data(r.below(slot + 1))
	d.slots[d.active] = old
	if r.below(3) == 0 {
		d.slots[d.active] = append(slices.Clone(old), r.data(slot-len(old))...)
	}
	d.slots[1-d.active] = r.data(r.below(slot + 1))
	o := r.options()
	d.window, d.look = max(o.Window, r.of(64, 300, 65536)), max(o.Press.Look.Window, r.of(1, 100, 32768))
	h, l := r.plan(t, old, slot, o)
	var parts []part
	for _, w := range l {
		parts = append(parts, pressed(t, w, o.Press))
	}
	switch r.below(12) {
	case 0, 1:
		h = r.bentHead(h)
		d.patch = patchOf(h, parts...)
	case 2, 3, 4:
		for range 1 + r.below(2) {
			if len(parts) > 0 {
				r.bend(&parts[r.below(len(parts))])
			}
		}
		d.patch = patchOf(h, parts...)
	case 5:
		p := r.bent(patchOf(h, parts...))
		d.patch = sealed(p[:max(0, len(p)-4)])
	case 6:
		d.patch = r.bent(patchOf(h, parts...))
	case 7:
		d.patch = append(patchOf(h, parts...), r.data(r.below(4))...)
	case 8:
		d.patch = r.data(r.below(100))
		if r.below(2) == 0 {
			d.patch = append(headBytes(h), d.patch...)
		}
	default:
		d.patch = patchOf(h, parts...)
	}
	return d
}

// plan: a header and windows for an old image: of the maker, or such as no maker makes.
func (r *rolls) plan(t *testing.T, old []byte, slot int, o api.Options) (api.Head, []api.Window) {
	t.Helper()
	if r.below(2) == 0 {
		next := r.like(old, slot)
		if r.below(4) == 0 {
			next = r.image(slot)
		}
		h, l, err := maker.Plan(old, next, o)
		ok(t, err)
		return h, l
	}
	h := api.Head{Old: len(old), New: len(r.image(slot)), OldSum: sumOf(old), Window: o.Window, Look: o.Press.Look.Window}
	wild := r.below(5) == 0
	var l []api.Window
	for _, n := range sizesOf(h) {
		l = append(l, r.window(h.Old, n, wild))
	}
	h.NewSum = sumOf(madeOf(old, l))
	return h, l
}

// bentHead: with one thing that is otherwise.
func (r *rolls) bentHead(h api.Head) api.Head {
	switch r.below(7) {
	case 0:
		h.Old = max(0, h.Old+r.of(-1, 1, 2, 100, 1<<24))
	case 1:
		h.New = max(0, h.New+r.of(-1, 1, -h.Window, h.Window))
	case 2:
		h.OldSum ^= 1 << r.below(32)
	case 3, 4:
		h.NewSum ^= 1 << r.below(32)
	case 5:
		h.Window = max(0, h.Window+r.of(-1, 1, -64, 64, 65536))
	case 6:
		h.Look = max(0, h.Look+r.of(-1, 1, 100, -h.Look/2, 32768))
	}
	return h
}

// bend: a frame, by one thing.
func (r *rolls) bend(p *part) {
	k := r.below(3)
	for p.raw[k] == 0 {
		k = r.below(3)
	}
	switch r.below(8) {
	case 0:
		p.pos = max(0, p.pos+r.of(-1, 1, 5, 100))
	case 1:
		p.raw[k] = max(0, p.raw[k]+r.of(-1, 1))
	case 2:
		if p.raw[1] > 0 {
			p.raw[1], p.raw[2] = p.raw[1]-1, p.raw[2]+1
		}
	case 3, 4:
		p.packed[k] = r.bent(p.packed[k])
	case 5:
		p.packed[k] = append(slices.Clone(p.packed[k]), r.data(1+r.below(3))...)
	case 6:
		p.packed[k] = p.packed[k][:r.below(len(p.packed[k])+1)]
	case 7:
		p.raw[0] = 1 + r.below(20)
		p.packed[0] = stored(r.data(p.raw[0]))
	}
}

// bent: bytes with something that is a little otherwise.
func (r *rolls) bent(b []byte) []byte {
	b = slices.Clone(b)
	if len(b) == 0 {
		return b
	}
	at := r.below(len(b))
	switch r.below(5) {
	case 0, 1:
		b[at] ^= 1 << r.below(8)
	case 2:
		b = slices.Delete(b, at, at+1)
	case 3:
		b = slices.Insert(b, at, byte(r.below(256)))
	case 4:
		b = b[:at]
	}
	return b
}

// pieces: bytes cut into drawn pieces, empty ones among them.
func (r *rolls) pieces(b []byte) [][]byte {
	var out [][]byte
	size := r.of(1, 2, 3, 10, 64, 300, 1000)
	for len(b) > 0 {
		n := min(len(b), r.below(size+1))
		out = append(out, b[:n])
		b = b[n:]
	}
	for range r.below(4) {
		out = slices.Insert(out, r.below(len(out)+1), []byte{})
	}
	return out
}

// flash: a new one of the device.
func (d drawn) flash(t *testing.T) *flash.Flash {
	t.Helper()
	return mustFlash(t, d.shape, d.active, d.slots[0], d.slots[1])
}

// pair: an applier and the model over two flashes of the device.
func (d drawn) pair(t *testing.T) pair {
	t.Helper()
	return pairOf(t, d.flash(t), d.flash(t), d.window, d.look)
}

// between: a drawn call of a flash: by which the power goes, or a page wears, or an image changes, or none of that.
func (r *rolls) between(s api.Shape) func(f *flash.Flash) {
	n, limit, at, slot, b := r.of(0, 1, 1, 2, 3, 4, 5, 8), r.of(0, 0, 1, 1, 2, 3), r.below(s.Pages), r.below(2), r.data(r.below(s.Page+1))
	switch r.below(9) {
	case 0, 1:
		return func(f *flash.Flash) { f.Cut(n, b) }
	case 2, 3:
		return func(f *flash.Flash) { f.Power() }
	case 4:
		return func(f *flash.Flash) { f.Limit(limit) }
	case 5:
		return func(f *flash.Flash) { f.Turn() }
	case 6:
		return func(f *flash.Flash) {
			f.Erase(slot, at)
			f.Program(slot, at, b)
		}
	}
	return func(f *flash.Flash) { f.Erase(2, at%2) }
}
