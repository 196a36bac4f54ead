package flash_test

import (
	"bytes"
	"fmt"
	"slices"
	"strings"
	"testing"

	"sapper/api"
	"sapper/flash"
)

// P21.1 to P21.11: drawn rows of calls with drawn cuts, each answer against the chapter's words.
func TestRowsOfCalls(t *testing.T) {
	r := rolls(11)
	count := map[string]int{}
	for range 1200 {
		s, active, slots := r.setup()
		f := mustNew(t, s, active, slots[0], slots[1])
		m, _ := modelNew(s, active, slots)
		for range 40 + r.below(60) {
			c := r.call(s)
			got := both(t, c, f, m)
			if toldOf(f) != toldOf(m) {
				t.Fatalf("behind %s: %s, not %s", c.text, toldOf(f), toldOf(m))
			}
			if r.below(10) == 0 && allOf(f) != allOf(m) {
				t.Fatalf("behind %s: %s, not %s", c.text, allOf(f), allOf(m))
			}
			words := strings.Fields(got)
			if len(words) > 0 {
				count[c.kind+" "+words[len(words)-1]]++
			}
		}
		f.Power()
		m.Power()
		if allOf(f) != allOf(m) {
			t.Fatalf("%s, not %s", allOf(f), allOf(m))
		}
	}
	for _, l := range []struct {
		kind string
		errs []api.Errno
	}{
		{"Erase", []api.Errno{api.OK, api.ErrFlashPower, api.ErrFlashPlace, api.ErrFlashWorn}},
		{"Program", []api.Errno{api.OK, api.ErrFlashPower, api.ErrFlashPlace, api.ErrArg, api.ErrFlashOrder}},
		{"Cut", []api.Errno{api.OK, api.ErrFlashPower, api.ErrArg}},
		{"Read", []api.Errno{api.OK, api.ErrFlashPower, api.ErrFlashPlace}},
		{"Erased", []api.Errno{api.OK, api.ErrFlashPower, api.ErrFlashPlace}},
		{"Wear", []api.Errno{api.OK, api.ErrFlashPlace}},
		{"Limit", []api.Errno{api.OK, api.ErrArg}},
		{"Turn", []api.Errno{api.OK, api.ErrFlashPower}},
		{"Save", []api.Errno{api.OK, api.ErrFlashPower}},
	} {
		for _, err := range l.errs {
			if n := count[fmt.Sprintf("%s %d", l.kind, int(err))]; n < 50 {
				t.Errorf("%s: %v just %d times", l.kind, err, n)
			}
		}
	}
}

// at: a page.
type at struct{ area, page int }

// pagesRead: the bytes of all pages.
func pagesRead(t *testing.T, d device) map[at]string {
	t.Helper()
	out := map[at]string{}
	size := d.Shape().Page
	for area, n := range pagesOf(d.Shape()) {
		for page := range n {
			b, err := d.Read(area, page*size, size)
			if err != api.OK {
				t.Fatal(err)
			}
			out[at{area, page}] = string(b)
		}
	}
	return out
}

// P21.7: a page's bytes change by its own operations alone, over drawn rows of calls.
func TestOwnOperationsAlone(t *testing.T) {
	r := rolls(12)
	changes := 0
	for range 300 {
		f := r.flash(t)
		was, ops := pagesRead(t, f), 0
		for range 80 {
			r.call(f.Shape()).do(f)
			if !f.On() {
				continue
			}
			touched := map[at]bool{}
			for _, o := range f.Log()[ops:] {
				touched[at{o.Area, o.Page}] = true
			}
			now := pagesRead(t, f)
			for p, b := range now {
				if b != was[p] && !touched[p] {
					t.Fatalf("page %v has changed without an operation", p)
				}
				if b != was[p] {
					changes++
				}
			}
			was, ops = now, f.Ops()
		}
	}
	if changes < 2000 {
		t.Error(changes)
	}
}

// P21.7: between two Programs of a page, and ahead of a slot page's first one, stands an Erase of it, over drawn rows of calls.
func TestEraseBetweenPrograms(t *testing.T) {
	r := rolls(13)
	programs := 0
	for range 500 {
		f := r.flash(t)
		for range 100 {
			r.call(f.Shape()).do(f)
		}
		ready := map[at]bool{{2, 0}: true, {2, 1}: true}
		for i, o := range f.Log() {
			p := at{o.Area, o.Page}
			if o.Kind == api.OpProgram {
				programs++
				if !ready[p] {
					t.Fatalf("%v: operation %d programs a page once more", f.Log(), i)
				}
			}
			ready[p] = o.Kind == api.OpErase
		}
	}
	if programs < 1000 {
		t.Error(programs)
	}
}

// P21.8: what was programmed is read again, as long as no operation comes to that page, over drawn rows of calls.
func TestProgrammedIsRead(t *testing.T) {
	r := rolls(14)
	reads := 0
	for range 300 {
		f := r.flash(t)
		s := f.Shape()
		kept := map[at][]byte{}
		for range 120 {
			area, page, b, ops := r.below(3), r.below(max(2, s.Pages)), r.piece(s.Page), f.Ops()
			if r.below(3) > 0 {
				r.call(s).do(f)
			} else if f.Program(area, page, b) == api.OK {
				kept[at{area, page}] = filled(b, s.Page)
				ops++
			}
			for _, o := range f.Log()[ops:] {
				delete(kept, at{o.Area, o.Page})
			}
			if !f.On() {
				continue
			}
			for p, want := range kept {
				expectRead(t, f, p.area, p.page*s.Page, want)
				reads++
			}
		}
	}
	if reads < 5000 {
		t.Error(reads)
	}
}

// P21.9: without power nothing changes but by Power: two devices go through the same drawn calls, and one of them, while there is no power, through others, too (but for Limit, which needs none).
func TestNothingWithoutPower(t *testing.T) {
	r := rolls(15)
	cuts := 0
	for range 300 {
		s, active, slots := r.setup()
		f := mustNew(t, s, active, slots[0], slots[1])
		g := mustNew(t, s, active, slots[0], slots[1])
		for range 80 {
			both(t, r.call(s), f, g)
			if f.On() {
				continue
			}
			cuts++
			told := toldOf(f)
			for range r.below(12) {
				if c := r.call(s); c.kind != "Power" && c.kind != "Limit" {
					c.do(f)
				}
				if toldOf(f) != told {
					t.Fatalf("%s has become %s", told, toldOf(f))
				}
			}
			if r.below(2) == 0 {
				continue
			}
			f.Power()
			g.Power()
			if allOf(f) != allOf(g) {
				t.Fatalf("%s, not %s", allOf(f), allOf(g))
			}
		}
	}
	if cuts < 1000 {
		t.Error(cuts)
	}
}

// P21.12: a device and the one of what it saved go through the same drawn calls, and answer the same, but for the log's beginning.
func TestLoadUndoesSave(t *testing.T) {
	r := rolls(16)
	for range 400 {
		f := r.worked(t)
		b := mustSave(t, f)
		g := mustLoad(t, b)
		expectLog(t, g)
		ok(t, f.Cut(0, nil)) // the one that may be planned is not saved
		from := f.Ops()
		for range 60 {
			c := r.call(f.Shape())
			both(t, c, f, g)
			if log := g.Log(); !slices.Equal(log, f.Log()[from:]) || g.Ops() != len(log) {
				t.Fatalf("behind %s: %v, not %v", c.text, log, f.Log()[from:])
			}
		}
		f.Power()
		g.Power()
		if x, y := mustSave(t, f), mustSave(t, g); !bytes.Equal(x, y) {
			t.Fatalf("% x, not % x", y, x)
		}
	}
}

// P21.12: one that is saved and loaded again and again, between drawn calls, against one that never is.
func TestSavedOnTheWay(t *testing.T) {
	r := rolls(17)
	for range 150 {
		s, active, slots := r.setup()
		f := mustNew(t, s, active, slots[0], slots[1])
		m, _ := modelNew(s, active, slots)
		for range 60 {
			both(t, r.call(s), f, m)
			if r.below(5) > 0 || !f.On() {
				continue
			}
			f = mustLoad(t, mustSave(t, f))
			m.left, m.log = 0, nil
			if allOf(f) != allOf(m) {
				t.Fatalf("%s, not %s", allOf(f), allOf(m))
			}
		}
	}
}

// P21.12: devices of drawn bytes, which New and calls may not lead to: what is loaded saves as the same bytes, and does what the chapter says.
func TestDrawnDevices(t *testing.T) {
	r := rolls(18)
	for range 300 {
		s := r.shape()
		m := draft(s.Page, s.Pages)
		m.active, m.limit = r.below(2), r.of(0, 0, 1, 5, 1<<40)
		for _, area := range m.areas {
			for i := range area {
				area[i] = leaf{bytes: filled(nil, s.Page), erased: true, wear: r.of(0, 0, 1, 4, 127, 128, 300, 1<<40-1, 1<<40)}
				if r.below(2) == 0 {
					area[i].bytes, area[i].erased = r.data(s.Page), false
				}
			}
		}
		b := mustSave(t, m)
		if !holdLoad(t, b) {
			t.Fatalf("% x", b)
		}
		f := mustLoad(t, b)
		for range 60 {
			both(t, r.call(s), f, m)
		}
		f.Power()
		m.Power()
		if allOf(f) != allOf(m) {
			t.Fatalf("%s, not %s", allOf(f), allOf(m))
		}
	}
}

// P21.1, P21.3, P21.11: the greatest device, both slots whole.
func TestGreatest(t *testing.T) {
	r := rolls(19)
	s := api.Shape{Page: api.MaxPage, Pages: api.MaxPages}
	size := s.Page * s.Pages
	a := bytes.Repeat(r.data(4099), size/4099+1)[:size]
	b := bytes.Repeat(r.data(4001), size/4001+1)[:size]
	f := mustNew(t, s, 1, a, b)
	ok(t, f.Erase(0, s.Pages-1), f.Program(0, s.Pages-1, []byte("last")), f.Erase(1, 17))
	copy(a[size-s.Page:], filled([]byte("last"), s.Page))
	copy(b[17*s.Page:], filled(nil, s.Page))
	for _, d := range []*flash.Flash{f, mustLoad(t, mustSave(t, f))} {
		for area, want := range [][]byte{a, b} {
			if got, err := d.Read(area, 0, size); !bytes.Equal(got, want) || err != api.OK {
				t.Errorf("area %d: %d bytes, %v", area, len(got), err)
			}
			expectNoRead(t, d, area, 0, size+1, api.ErrFlashPlace)
			expectNoRead(t, d, area, 1, size, api.ErrFlashPlace)
			expectRead(t, d, area, size-1, want[size-1:])
			expectRead(t, d, area, size, nil)
		}
	}
	expectNoNew(t, "one more", s, 0, make([]byte, size+1), nil)
}
