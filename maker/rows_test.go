package maker_test

import (
	"bytes"
	"math"
	"slices"
	"testing"

	"sapper/api"
	"sapper/crc"
	"sapper/maker"
)

// usual: the options of the chapter's examples.
func usual() api.Options {
	return api.Options{Window: 64, Press: api.Press{Look: api.Look{Window: 100, Chain: 10}, Block: 100}}
}

// steps: of three numbers each.
func steps(l ...int) []api.Step {
	var out []api.Step
	for part := range slices.Chunk(l, 3) {
		out = append(out, api.Step{Add: part[0], Copy: part[1], Seek: part[2]})
	}
	return out
}

// window: one of these steps; its bytes are told apart by their places.
func window(pos int, l ...int) api.Window {
	out := api.Window{Pos: pos, Edit: api.Edit{Steps: steps(l...)}}
	e := &out.Edit
	for _, s := range e.Steps {
		for range s.Add {
			e.Diff = append(e.Diff, byte(len(e.Diff)))
		}
		for range s.Copy {
			e.Extra = append(e.Extra, byte(100+len(e.Extra)))
		}
	}
	return out
}

// sameWindows: the same windows?
func sameWindows(a, b []api.Window) bool {
	return slices.EqualFunc(a, b, func(x, y api.Window) bool {
		return x.Pos == y.Pos && slices.Equal(x.Edit.Steps, y.Edit.Steps) && bytes.Equal(x.Edit.Diff, y.Edit.Diff) && bytes.Equal(x.Edit.Extra, y.Edit.Extra)
	})
}

// mustGenerate: a patch that there must be.
func mustGenerate(t *testing.T, old, next []byte, o api.Options) []byte {
	t.Helper()
	p, err := maker.Generate(old, next, o)
	if err != api.OK {
		t.Fatalf("Generate(%q, %q, %v): %v", old, next, o, err)
	}
	return p
}

// mustMerge: likewise.
func mustMerge(t *testing.T, p, q []byte, o api.Options) []byte {
	t.Helper()
	m, err := maker.Merge(p, q, o)
	if err != api.OK {
		t.Fatalf("Merge(% x, % x, %v): %v", p, q, o, err)
	}
	return m
}

// mustUndo: likewise.
func mustUndo(t *testing.T, p, old []byte, o api.Options) []byte {
	t.Helper()
	u, err := maker.Undo(p, old, o)
	if err != api.OK {
		t.Fatalf("Undo(% x, %q, %v): %v", p, old, o, err)
	}
	return u
}

// expectMeaning: what a patch means, written out.
func expectMeaning(t *testing.T, name string, patch, old []byte, want []byte, wantErr api.Errno) {
	t.Helper()
	if b, err := maker.Meaning(patch, old); !bytes.Equal(b, want) || err != wantErr {
		t.Errorf("%s: Meaning(% x, %q) = %q, %v, not %q, %v", name, patch, old, b, err, want, wantErr)
	}
}

// holdPlan: Plan and Generate against the chapter's words.
func holdPlan(t *testing.T, old, next []byte, o api.Options) {
	t.Helper()
	h, l, err := maker.Plan(old, next, o)
	wantHead, want, wantErr := planOf(old, next, o)
	if h != wantHead || !sameWindows(l, want) || err != wantErr {
		t.Fatalf("Plan(%q, %q, %v) = %v, %v, %v, not %v, %v, %v", old, next, o, h, l, err, wantHead, want, wantErr)
	}
	p, err := maker.Generate(old, next, o)
	if want, wantErr := generateOf(old, next, o); !bytes.Equal(p, want) || err != wantErr {
		t.Fatalf("Generate(%q, %q, %v) = % x, %v, not % x, %v", old, next, o, p, err, want, wantErr)
	}
}

// holdMeaning: Meaning against the chapter's words.
func holdMeaning(t *testing.T, patch, old []byte) api.Errno {
	t.Helper()
	b, err := maker.Meaning(patch, old)
	if want, wantErr := meaningOf(patch, old); !bytes.Equal(b, want) || err != wantErr {
		t.Fatalf("Meaning(% x, %q) = %q, %v, not %q, %v", patch, old, b, err, want, wantErr)
	}
	return err
}

// holdMerge: Merge against the chapter's words.
func holdMerge(t *testing.T, p, q []byte, o api.Options) api.Errno {
	t.Helper()
	m, err := maker.Merge(p, q, o)
	if want, wantErr := mergeOf(p, q, o); !bytes.Equal(m, want) || err != wantErr {
		t.Fatalf("Merge(% x, % x, %v) = % x, %v, not % x, %v", p, q, o, m, err, want, wantErr)
	}
	return err
}

// holdUndo: Undo against the chapter's words.
func holdUndo(t *testing.T, patch, old []byte, o api.Options) api.Errno {
	t.Helper()
	u, err := maker.Undo(patch, old, o)
	if want, wantErr := undoOf(patch, old, o); !bytes.Equal(u, want) || err != wantErr {
		t.Fatalf("Undo(% x, %q, %v) = % x, %v, not % x, %v", patch, old, o, u, err, want, wantErr)
	}
	return err
}

// holdBest: Best against the chapter's words.
func holdBest(t *testing.T, old, next []byte, l ...api.Options) int {
	t.Helper()
	p, place, err := maker.Best(old, next, l...)
	if want, wantPlace, wantErr := bestOf(old, next, l...); !bytes.Equal(p, want) || place != wantPlace || err != wantErr {
		t.Fatalf("Best(%q, %q, %v) = % x, %d, %v, not % x, %d, %v", old, next, l, p, place, err, want, wantPlace, wantErr)
	}
	return place
}

// choice: options, and whether they may be.
type choice struct {
	name string
	o    api.Options
	may  bool
}

// choices: the usual options with one number at each of its edges and at the ends of all.
func choices() []choice {
	var out []choice
	for _, c := range []struct {
		name        string
		least, most int
		set         func(o *api.Options, v int)
	}{
		{"Window", 64, 65536, func(o *api.Options, v int) { o.Window = v }},
		{"Look.Window", 1, 32768, func(o *api.Options, v int) { o.Press.Look.Window = v }},
		{"Look.Chain", 0, 4096, func(o *api.Options, v int) { o.Press.Look.Chain = v }},
		{"Block", 1, 65536, func(o *api.Options, v int) { o.Press.Block = v }},
	} {
		ends := []int{math.MinInt, math.MinInt + 1, -c.most, -c.least, -1, 0, math.MaxInt32, 1 << 32, math.MaxInt - 1, math.MaxInt}
		for _, v := range append(ends, c.least-1, c.least, c.least+1, c.most-1, c.most, c.most+1) {
			o := usual()
			c.set(&o, v)
			out = append(out, choice{c.name, o, v >= c.least && v <= c.most})
		}
	}
	lazy := usual()
	lazy.Press.Look.Lazy = true
	return append(out, choice{"usual", usual(), true}, choice{"Lazy", lazy, true}, choice{"none", api.Options{}, false})
}

// rolls: numbers that follow no pattern and are the same at each run.
type rolls uint64

// below: a number from 0 on, below n.
func (r *rolls) below(n int) int {
	*r = *r*6364136223846793005 + 1442695040888963407
	return int(uint64(*r>>33) % uint64(n))
}

// of: one of these.
func (r *rolls) of(l ...int) int { return l[r.below(len(l))] }

// word: 32 bits.
func (r *rolls) word() uint32 { return uint32(r.below(1<<16))<<16 | uint32(r.below(1<<16)) }

// data: n bytes, of few kinds or of many.
func (r *rolls) data(n int) []byte {
	kinds := r.of(1, 2, 5, 256, 256)
	out := make([]byte, n)
	for i := range out {
		out[i] = byte(r.below(kinds))
	}
	return out
}

// image: one of at most a few windows, often at the edge of one.
func (r *rolls) image() []byte {
	if r.below(4) == 0 {
		return r.data(r.of(0, 1, 8, 9, 63, 64, 65, 127, 128, 129, 192))
	}
	return r.data(r.below(300))
}

// like: an image that is made of parts of another one, some with single bytes changed or all of them risen, and of bytes between them.
func (r *rolls) like(old []byte) []byte {
	var out []byte
	for range r.below(5) {
		from := r.below(len(old) + 1)
		part := slices.Clone(old[from:min(len(old), from+r.below(120))])
		switch r.below(4) {
		case 0:
			for i := r.below(5); i < len(part); i += 1 + r.below(20) {
				part[i] = byte(r.below(256))
			}
		case 1:
			for i := r.below(9); i < len(part); i += 1 + r.below(9) {
				part[i] += 3
			}
		}
		out = append(out, part...)
		if r.below(2) == 0 {
			out = append(out, r.data(r.below(20))...)
		}
	}
	return out
}

// next: an image that may follow upon another one: the same, none, one that is like it, or one that is not.
func (r *rolls) next(old []byte) []byte {
	switch r.below(12) {
	case 0:
		return slices.Clone(old)
	case 1:
		return nil
	case 2:
		return r.image()
	}
	return r.like(old)
}

// options: some that may be.
func (r *rolls) options() api.Options {
	o := api.Options{Window: r.of(64, 64, 65, 100, 128, 300, 65535, 65536)}
	o.Press.Look = api.Look{Window: r.of(1, 2, 30, 100, 300, 32767, 32768), Chain: r.of(0, 1, 2, 10, 4096), Lazy: r.below(2) == 0}
	o.Press.Block = r.of(20, 50, 100, 1000, 65535, 65536)
	if r.below(12) == 0 {
		o.Press.Block = r.of(1, 2)
	}
	return o
}

// window: one of so many bytes that may be over old bytes, in any steps.
func (r *rolls) window(old, size int) api.Window {
	out := api.Window{Pos: r.below(old + 1)}
	place, most := out.Pos, 1+r.below(40)
	for size > 0 {
		s := api.Step{Add: r.below(min(old-place, size, most) + 1)}
		s.Copy = r.below(2) * r.below(min(size-s.Add, most)+1)
		if s.Add+s.Copy == 0 {
			s.Copy = 1
		}
		size -= s.Add + s.Copy
		place += s.Add
		if to := r.below(old + 1); size > 0 && r.below(3) > 0 {
			s.Seek = to - place
			place = to
		}
		out.Edit.Steps = append(out.Edit.Steps, s)
		out.Edit.Diff = append(out.Edit.Diff, r.data(s.Add)...)
		out.Edit.Extra = append(out.Edit.Extra, r.data(s.Copy)...)
	}
	return out
}

// sizesOf: how many bytes each of a header's windows makes.
func sizesOf(h api.Head) []int {
	var out []int
	for left := h.New; left > 0; left -= h.Window {
		out = append(out, min(left, h.Window))
	}
	return out
}

// patch: one that no Generate makes, for that image, of drawn windows; and what it makes. Some of its windows begin with no place that is read, have steps that could be one, or lead on where nothing is read.
func (r *rolls) patch(old []byte) ([]byte, []byte) {
	o := r.options()
	h := api.Head{Old: len(old), New: len(r.image()), OldSum: sumOf(old), Window: o.Window, Look: o.Press.Look.Window}
	var l []api.Window
	for _, n := range sizesOf(h) {
		l = append(l, r.window(h.Old, n))
	}
	made := bytesOf(old, originsOf(l))
	h.NewSum = sumOf(made)
	return patchOf(h, o.Press, l...), made
}

// either: a patch for that image, of Generate's or not; and what it makes.
func (r *rolls) either(t *testing.T, old []byte) ([]byte, []byte) {
	t.Helper()
	if r.below(2) == 0 {
		return r.patch(old)
	}
	next := r.next(old)
	return mustGenerate(t, old, next, r.options()), next
}

// bent: bytes with something that is a little otherwise.
func (r *rolls) bent(b []byte) []byte {
	b = slices.Clone(b)
	if len(b) == 0 {
		return b
	}
	at := r.below(len(b))
	switch r.below(5) {
	case 0:
		b[at] ^= 1 << r.below(8)
	case 1:
		b[at] = byte(r.below(256))
	case 2:
		b = slices.Delete(b, at, at+1)
	case 3:
		b = slices.Insert(b, at, byte(r.below(256)))
	case 4:
		b = b[:at]
	}
	return b
}

// rehead: a patch with another header of the same size, and right sums.
func rehead(patch []byte, was, h api.Head) []byte {
	rest := patch[len(headBytes(was)) : len(patch)-4]
	return sealed(headBytes(h), rest)
}

// sameSum: an image of four bytes or more with its last four changed, so that it has the sum of another one.
func sameSum(b, other []byte) []byte {
	n := len(b) - 4
	tail := crc.Tail(crc.Sum(b[:n]), crc.Sum(other))
	return append(slices.Clone(b[:n]), tail[:]...)
}

// twin: another image of the same size, five bytes or more, and with the same sum.
func twin(b []byte) []byte {
	out := slices.Clone(b)
	out[0] ^= 0x55
	return sameSum(out, b)
}
