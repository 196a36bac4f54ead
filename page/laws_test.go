package page_test

import (
	"fmt"
	"slices"
	"testing"

	"sapper/api"
	"sapper/flash"
)

// twins: two flashes that are the same.
func (r *rolls) twins(t *testing.T) (f, g *flash.Flash) {
	t.Helper()
	s, active, slots := r.setup()
	return mustFlash(t, s, active, slots[0], slots[1]), mustFlash(t, s, active, slots[0], slots[1])
}

// step: a drawn Write or End of two writers, which must answer the same; its kind and its answer.
func (r *rolls) step(t *testing.T, w, m writer, s api.Shape) (string, api.Errno) {
	t.Helper()
	kind, got, want := "End", api.OK, api.OK
	if r.below(12) == 0 {
		got, want = w.End(), m.End()
	} else {
		b := r.piece(s, m.Written())
		kind, got, want = fmt.Sprintf("Write of %d", len(b)), w.Write(b), m.Write(b)
	}
	if got != want {
		t.Fatalf("%s: %v, not %v", kind, got, want)
	}
	return kind[:3], got
}

// P22.1 to P22.4: drawn rows of calls, with drawn cuts, limits and other calls of the flash between them, over flashes of drawn shapes: each answer, all that is told and all of the flash against the chapter's words.
func TestRowsOfCalls(t *testing.T) {
	r := rolls(12)
	count := map[string]int{}
	for range 3000 {
		f, g := r.twins(t)
		for range r.below(6) {
			c := r.between(f.Shape())
			c.do(f)
			c.do(g)
		}
		w, m := mustNew(t, f), modelNew(g)
		often := r.of(2, 3, 6, 20)
		for range 5 + r.below(30) {
			kind, answer := "", api.OK
			if r.below(often) == 0 {
				c := r.between(f.Shape())
				kind = c.kind
				if got, want := c.do(f), c.do(g); got != want {
					t.Fatalf("%s: %s, not %s", c.kind, got, want)
				}
			} else {
				kind, answer = r.step(t, w, m, f.Shape())
				count[fmt.Sprint(kind, int(answer))]++
			}
			if w.Written() != m.Written() || w.Pages() != m.Pages() || w.Room() != m.Room() {
				t.Fatalf("behind %s: %d, %d, %d, not %d, %d, %d", kind, w.Written(), w.Pages(), w.Room(), m.Written(), m.Pages(), m.Room())
			}
			if !slices.Equal(f.Log(), g.Log()) {
				t.Fatalf("behind %s: %v, not %v", kind, f.Log(), g.Log())
			}
		}
		f.Power()
		g.Power()
		if toldOf(f) != toldOf(g) {
			t.Fatalf("%s, not %s", toldOf(f), toldOf(g))
		}
	}
	for _, kind := range []string{"Wri", "End"} {
		for _, err := range []api.Errno{api.OK, api.ErrFlashPower, api.ErrFlashWorn, api.ErrPageOver} {
			if n := count[fmt.Sprint(kind, int(err))]; n < 100 {
				t.Errorf("%s: %v just %d times", kind, err, n)
			}
		}
	}
	if n := count[fmt.Sprint("Wri", int(api.ErrPageFull))]; n < 100 {
		t.Errorf("ErrPageFull just %d times", n)
	}
}

// P22.5: behind each Write and End that answered OK the slot is read: it has what was taken, as far as whole pages of it are there, and behind End all of it, with 255 behind it up to the page's end; behind that it is as it was. Calls of the flash stand between them that do not come to this slot.
func TestSlotHasWhatWasTaken(t *testing.T) {
	r := rolls(13)
	writes, ends := 0, 0
	for range 800 {
		f, _ := r.twins(t)
		s, slot := f.Shape(), 1-f.Active()
		size := s.Page * s.Pages
		old, err := f.Read(slot, 0, size)
		ok(t, err)
		w := mustNew(t, f)
		var taken []byte
		for range 2 + r.below(20) {
			if r.below(3) == 0 {
				r.apart(s, slot).do(f)
			}
			b := r.piece(s, len(taken))
			if err := w.Write(b); err == api.OK {
				taken = append(taken, b...)
				writes++
			} else {
				expect(t, "Write", err, api.ErrPageFull)
			}
			whole := len(taken) / s.Page * s.Page
			expectRead(t, f, slot, 0, append(slices.Clone(taken[:whole]), old[whole:]...))
		}
		ok(t, w.End())
		ends++
		whole := (len(taken) + s.Page - 1) / s.Page * s.Page
		expectRead(t, f, slot, 0, append(filled(taken, whole), old[whole:]...))
	}
	if writes < 4000 || ends != 800 {
		t.Error(writes, ends)
	}
}

// P22.6: the same bytes in one piece, and in drawn pieces, empty ones among them: the same log, whether there is a cut, a worn page or neither; and the same bytes in the flash.
func TestAnyPieces(t *testing.T) {
	r := rolls(14)
	whole, cut := 0, 0
	for range 1500 {
		f, g := r.twins(t)
		s := f.Shape()
		b := r.data(r.of(s.Page*s.Pages, r.below(s.Page*s.Pages+1), r.below(s.Page*s.Pages+1)))
		if r.below(2) == 0 {
			n, torn := 1+r.below(2*s.Pages+1), r.data(r.below(s.Page+1))
			ok(t, f.Cut(n, torn), g.Cut(n, torn))
		}
		if r.below(4) == 0 {
			at := r.below(s.Pages)
			ok(t, f.Limit(3), g.Limit(3))
			for range 3 {
				f.Erase(1-f.Active(), at)
				g.Erase(1-g.Active(), at)
			}
		}
		v, w := mustNew(t, f), mustNew(t, g)
		one := v.Write(b)
		if one == api.OK {
			one = v.End()
		}
		many := api.OK
		for _, part := range r.pieces(b) {
			if err := w.Write(part); many == api.OK {
				many = err
			}
		}
		if err := w.End(); many == api.OK {
			many = err
		}
		if one != many || v.Pages() != w.Pages() {
			t.Fatalf("%v with %d pages, and %v with %d", one, v.Pages(), many, w.Pages())
		}
		if !slices.Equal(f.Log(), g.Log()) {
			t.Fatalf("%v, and in pieces %v", f.Log(), g.Log())
		}
		if one == api.OK {
			expectTold(t, w, len(b), v.Pages())
			whole++
		} else {
			cut++
		}
		f.Power()
		g.Power()
		if toldOf(f) != toldOf(g) {
			t.Fatalf("%s, and in pieces %s", toldOf(f), toldOf(g))
		}
	}
	if whole < 300 || cut < 300 {
		t.Error(whole, cut)
	}
}

// P22.7: the operations that the log has more behind each call of a writer, over drawn rows of calls with other calls of the flash between them: an Erase and a Program of page 0, of page 1, and so on, of its slot alone; of a Write as many as it made pages whole.
func TestOwnOperations(t *testing.T) {
	r := rolls(15)
	ops := 0
	for range 1500 {
		f, _ := r.twins(t)
		slot, w := 1-f.Active(), mustNew(t, f)
		var own []api.Op
		for range 5 + r.below(30) {
			if r.below(3) == 0 {
				r.between(f.Shape()).do(f)
				continue
			}
			from, err := f.Ops(), api.OK
			if r.below(15) == 0 {
				err = w.End()
			} else {
				err = w.Write(r.piece(f.Shape(), w.Written()))
			}
			own = append(own, f.Log()[from:]...)
			if err == api.OK && len(own) != 2*w.Pages() {
				t.Fatalf("%d pages: %v", w.Pages(), own)
			}
			if !slices.Equal(own, inOrder(slot, len(own))) || len(own)/2 < w.Pages() {
				t.Fatalf("%d pages of slot %d: %v", w.Pages(), slot, own)
			}
		}
		ops += len(own)
	}
	if ops < 4000 {
		t.Error(ops)
	}
}

// P22.7: several writers over one flash, of both slots, in turn: each has its own operations in their order.
func TestWritersOverOneFlash(t *testing.T) {
	r := rolls(16)
	for range 200 {
		f, g := r.twins(t)
		s := f.Shape()
		var l [3]writer
		var m [3]*model
		for i := range l {
			l[i], m[i] = mustNew(t, f), modelNew(g)
			ok(t, f.Turn(), g.Turn())
		}
		var own [3][]api.Op
		for range 40 {
			i, from := r.below(3), f.Ops()
			r.step(t, l[i], m[i], s)
			own[i] = append(own[i], f.Log()[from:]...)
		}
		for i := range l {
			expectTold(t, l[i], m[i].Written(), m[i].Pages())
			if !slices.Equal(own[i], inOrder(m[i].slot, 2*m[i].Pages())) {
				t.Fatalf("writer %d: %v", i, own[i])
			}
		}
		if toldOf(f) != toldOf(g) {
			t.Fatalf("%s, not %s", toldOf(f), toldOf(g))
		}
	}
}
