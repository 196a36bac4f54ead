package page_test

import (
	"reflect"
	"slices"
	"testing"

	"sapper/api"
	"sapper/flash"
	"sapper/page"
)

// R5: a writer that no call made, nil and zero, at each of its functions, over and over.
func TestUnmade(t *testing.T) {
	for name, w := range map[string]*page.Writer{"nil": nil, "zero": {}, "zero by new": new(page.Writer)} {
		for _, n := range []int{0, 1, 64, 5000, 1 << 25} {
			expect(t, name+": Write", w.Write(make([]byte, n)), api.ErrMade)
			expect(t, name+": Write of nil", w.Write(nil), api.ErrMade)
			expect(t, name+": End", w.End(), api.ErrMade)
			if w.Written() != 0 || w.Pages() != 0 || w.Room() != 0 {
				t.Errorf("%s: %d, %d, %d", name, w.Written(), w.Pages(), w.Room())
			}
			if w != nil && *w != (page.Writer{}) {
				t.Errorf("%s: it has changed", name)
			}
		}
	}
}

// The chapter's list of calls: a writer has no others, none of the flash's either.
func TestCalls(t *testing.T) {
	var got []string
	x := reflect.TypeFor[*page.Writer]()
	for i := range x.NumMethod() {
		got = append(got, x.Method(i).Name)
	}
	if !slices.Equal(got, []string{"End", "Pages", "Room", "Write", "Written"}) {
		t.Errorf("%v", got)
	}
}

// R3: nil and empty lists are the same, ahead of, behind and between others, and when it is full.
func TestNone(t *testing.T) {
	for _, none := range [][]byte{nil, {}, make([]byte, 0, 99), []byte("xyz")[:0]} {
		f, w := small(t)
		ok(t, w.Write(none), w.Write(none))
		expectTold(t, w, 0, 0)
		ok(t, w.Write([]byte("ab")), w.Write(none), w.Write([]byte("cd")))
		expectTold(t, w, 4, 0)
		ok(t, w.Write(make([]byte, 60)), w.Write(none), w.Write(make([]byte, 64)), w.Write(none))
		expectTold(t, w, 128, 2)
		ok(t, w.End())
		expect(t, "none behind End", w.Write(none), api.ErrPageOver)
		expectRead(t, f, 1, 0, append([]byte("abcd"), make([]byte, 124)...))
		f, w = small(t)
		ok(t, w.Write(none), w.End())
		expectTold(t, w, 0, 0)
		expectLog(t, f)
	}
}

// R1: a flash that is written over behind New: the writer's calls end, and none panics.
func TestFlashWrittenOver(t *testing.T) {
	for _, held := range []int{0, 10, 63, 64, 100} {
		for _, s := range []api.Shape{{}, shape(64, 1), shape(65, 9), shape(4096, 1)} {
			f, w := small(t)
			ok(t, w.Write(make([]byte, held)))
			*f = flash.Flash{}
			if s.Page > 0 {
				*f = *mustFlash(t, s, 1)
			}
			for _, n := range []int{0, 1, 64, 65, 128, 1000} {
				w.Write(make([]byte, n))
			}
			w.End()
			if w.Room() != 64 {
				t.Errorf("%v: Room %d", s, w.Room())
			}
		}
	}
}

// R3: bytes that are handed in stay as they were, with the room behind them, also where the call fails or refuses; and they may be written over behind it, while they are held.
func TestMemoryHandedIn(t *testing.T) {
	r := rolls(17)
	for range 400 {
		f, g := r.twins(t)
		w, m := mustNew(t, f), modelNew(g)
		for range 20 {
			b := r.piece(f.Shape(), m.Written())
			given, same := lent(b)
			expect(t, "Write", w.Write(given), m.Write(b))
			if !same() {
				t.Fatal("what was handed in has changed")
			}
			spoil(given, 200)
			if r.below(20) == 0 {
				n := 1 + r.below(4)
				f.Cut(n, b[:min(len(b), 64)])
				g.Cut(n, b[:min(len(b), 64)])
			}
		}
		expect(t, "End", w.End(), m.End())
		f.Power()
		g.Power()
		if toldOf(f) != toldOf(g) {
			t.Fatalf("%s, not %s", toldOf(f), toldOf(g))
		}
	}
}

// R4: writers over flashes of their own know nothing of each other, nor of how they take turns.
func TestSideBySide(t *testing.T) {
	r := rolls(18)
	for range 100 {
		var l [4]writer
		var m [4]*model
		var fs [4]*flash.Flash
		for i := range l {
			f, g := r.twins(t)
			l[i], m[i], fs[i] = mustNew(t, f), modelNew(g), f
		}
		for range 80 {
			i := r.below(4)
			if r.below(10) == 0 {
				c := r.between(fs[i].Shape())
				c.do(fs[i])
				c.do(m[i].flash)
			}
			r.step(t, l[i], m[i], fs[i].Shape())
		}
		for i := range l {
			expectTold(t, l[i], m[i].Written(), m[i].Pages())
			fs[i].Power()
			m[i].flash.Power()
			if toldOf(fs[i]) != toldOf(m[i].flash) {
				t.Fatalf("%s, not %s", toldOf(fs[i]), toldOf(m[i].flash))
			}
		}
	}
}

// R4: several at one time.
func TestAtOneTime(t *testing.T) {
	done := make(chan bool)
	for i := range 8 {
		go func() {
			r := rolls(i)
			s, active, slots := r.setup()
			f, _ := flash.New(s, active, slots)
			g, _ := flash.New(s, active, slots)
			w, err := page.New(f)
			m := modelNew(g)
			right := err == api.OK
			for range 50 {
				b := r.piece(s, m.Written())
				right = right && w.Write(b) == m.Write(b)
			}
			right = right && w.End() == m.End()
			done <- right && toldOf(f) == toldOf(g)
		}()
	}
	for range 8 {
		if !<-done {
			t.Error("another answer")
		}
	}
}
