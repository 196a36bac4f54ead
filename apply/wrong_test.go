package apply_test

import (
	"reflect"
	"runtime"
	"slices"
	"testing"

	"sapper/api"
	"sapper/apply"
	"sapper/flash"
)

// R5: an applier that no call made, nil and zero, at each of its functions, over and over.
func TestUnmade(t *testing.T) {
	for name, a := range map[string]*apply.Applier{"nil": nil, "zero": {}, "zero by new": new(apply.Applier)} {
		for range 2 {
			for _, b := range [][]byte{nil, {}, {'S'}, []byte("SAPR\x01"), make([]byte, 1<<20)} {
				expect(t, name+": Feed", a.Feed(b), api.ErrMade)
				expect(t, name+": Finish", a.Finish(), api.ErrMade)
				expect(t, name+": Err", a.Err(), api.ErrMade)
				if h, told := a.Head(); h != (api.Head{}) || told || a.Committed() || a.Made() != 0 || a.Held() != 0 || a.Bound() != 0 {
					t.Errorf("%s: %s", name, answersOf(a))
				}
				if a != nil && *a != (apply.Applier{}) {
					t.Errorf("%s: it has changed", name)
				}
			}
		}
	}
}

// The chapter's list of calls: an applier has no others, none of the purse's either, and nothing that is to be seen.
func TestCalls(t *testing.T) {
	var got []string
	x := reflect.TypeFor[*apply.Applier]()
	for i := range x.NumMethod() {
		got = append(got, x.Method(i).Name)
	}
	if !slices.Equal(got, []string{"Bound", "Committed", "Err", "Feed", "Finish", "Head", "Held", "Made"}) {
		t.Errorf("%v", got)
	}
	for i := range x.Elem().NumField() {
		if f := x.Elem().Field(i); f.IsExported() || f.Anonymous {
			t.Errorf("%s is to be seen", f.Name)
		}
	}
}

// The errors' numbers, as the chapter has them.
func TestErrors(t *testing.T) {
	old, next, h, l := base()
	patch := patchOf(h, l[:]...)
	fed := func(f *flash.Flash, b []byte) api.Errno {
		a, err := apply.New(f, 64, 100)
		if err != api.OK {
			return err
		}
		return a.Feed(b)
	}
	f := mustFlash(t, shape(64, 4), 0, old)
	wrong := l
	wrong[2].pos = 98
	off := mustFlash(t, shape(64, 4), 0, old)
	away(t, off)
	over := mustNew(t, f, 64, 100)
	ok(t, over.Feed(patch), over.Finish())
	for name, c := range map[string]struct {
		err  api.Errno
		want int
	}{
		"form":  {fed(f, []byte("X")), 240},
		"old":   {fed(f, patchOf(headOf(next, nil))), 241},
		"size":  {fed(f, patchOf(headOf(make([]byte, 257), nil))), 242},
		"read":  {fed(f, patchOf(h, wrong[:]...)), 243},
		"sum":   {fed(f, turned(patch, len(patch)-1, 0)), 244},
		"flash": {fed(off, patch), 245},
		"over":  {over.Finish(), 246},
		"made":  {fed(nil, patch), 2},
	} {
		if int(c.err) != c.want {
			t.Errorf("%s: %d, not %d", name, int(c.err), c.want)
		}
	}
}

// R3: nil and empty lists are the same, at any place of a patch.
func TestNone(t *testing.T) {
	_, next, h, l := base()
	patch := patchOf(h, l[:]...)
	for _, none := range [][]byte{nil, {}, make([]byte, 0, 99), []byte("xyz")[:0]} {
		f, a := baseTrial(nil).start(t)
		ok(t, a.Feed(none), a.Feed(none))
		for i := range patch {
			was := answersOf(a)
			ok(t, a.Feed(none))
			if answersOf(a) != was {
				t.Errorf("%s has become %s", was, answersOf(a))
			}
			ok(t, a.Feed(patch[i:i+1]))
		}
		ok(t, a.Feed(none), a.Finish())
		expectRead(t, f, 1, next)
	}
}

// R3: bytes that are handed in stay as they were, with the room behind them, also where the call refuses; and they may be written over behind it.
func TestMemoryHandedIn(t *testing.T) {
	r := rolls(1)
	for range 300 {
		d := r.draw(t)
		x := d.pair(t)
		for _, part := range r.pieces(d.patch) {
			given, same := lent(part)
			expect(t, "Feed", x.a.Feed(given), x.m.Feed(part))
			if !same() {
				t.Fatal("what was handed in has changed")
			}
			spoil(given, byte(r.below(256)))
			x.hold("Feed")
		}
		x.finish()
		x.whole()
	}
}

// R1: a flash that is written over behind New, at any byte: the applier's calls end, and none panics.
func TestFlashWrittenOver(t *testing.T) {
	old, _, h, l := base()
	patch := patchOf(h, l[:]...)
	for _, s := range []api.Shape{{}, shape(64, 1), shape(65, 9), shape(4096, 1), shape(64, 4096)} {
		for at := range len(patch) + 1 {
			f, a := baseTrial(nil).start(t)
			ok(t, a.Feed(patch[:at]))
			*f = flash.Flash{}
			if s.Page > 0 {
				*f = *mustFlash(t, s, 1, nil, old[:64])
			}
			a.Feed(patch[at:])
			a.Finish()
			a.Feed(patch)
			if a.Held() != roomOf(64, 64, 100) || a.Bound() != a.Held() {
				t.Errorf("%v at %d: Held %d, Bound %d", s, at, a.Held(), a.Bound())
			}
		}
	}
}

// R4: appliers over flashes of their own know nothing of each other, nor of how they take turns.
func TestSideBySide(t *testing.T) {
	r := rolls(2)
	for range 40 {
		var l [4]pair
		var left [4][][]byte
		for i := range l {
			d := r.draw(t)
			l[i], left[i] = d.pair(t), r.pieces(d.patch)
		}
		for slices.ContainsFunc(left[:], func(x [][]byte) bool { return len(x) > 0 }) {
			i := r.below(4)
			if len(left[i]) > 0 {
				l[i].feed(left[i][0])
				left[i] = left[i][1:]
			}
		}
		for _, x := range l {
			x.finish()
			x.whole()
		}
	}
}

// R4: two appliers over one flash, in turn: each goes on by what is there; the second one's pages come over those of the first.
func TestOverOneFlash(t *testing.T) {
	_, next, h, l := base()
	patch := patchOf(h, l[:]...)
	f, a := baseTrial(nil).start(t)
	b := mustNew(t, f, 64, 100)
	for i := range patch {
		ok(t, a.Feed(patch[i:i+1]), b.Feed(patch[i:i+1]))
	}
	ok(t, a.Finish(), b.Finish())
	expectRead(t, f, 1, next)
	one, two := inOrder(1, 6), []api.Op{}
	for i := 0; i < 6; i += 2 {
		two = append(two, one[i], one[i+1], one[i], one[i+1])
	}
	if !slices.Equal(f.Log(), two) {
		t.Error(f.Log())
	}
}

// R4: several at one time.
func TestAtOneTime(t *testing.T) {
	var l [8]drawn
	for i := range l {
		r := rolls(100 + i)
		l[i] = r.draw(t)
	}
	done := make(chan bool)
	for i, d := range l {
		go func() {
			r := rolls(i)
			f, _ := flash.New(d.shape, d.active, d.slots)
			g, _ := flash.New(d.shape, d.active, d.slots)
			a, err := apply.New(f, d.window, d.look)
			m, _ := modelNew(g, d.window, d.look)
			right := err == api.OK
			for _, part := range r.pieces(d.patch) {
				right = right && a.Feed(part) == m.Feed(part)
			}
			right = right && a.Finish() == m.Finish()
			done <- right && answersOf(a) == answersOf(m) && toldOf(f) == toldOf(g)
		}()
	}
	for range l {
		if !<-done {
			t.Error("another answer")
		}
	}
}

// inUse: bytes of memory that are still reached.
func inUse() int {
	runtime.GC()
	runtime.GC()
	var m runtime.MemStats
	runtime.ReadMemStats(&m)
	return int(m.HeapAlloc)
}

// greatest: a patch of two of the greatest windows, the first of which has as much control as there may be, and adds all of its bytes, the second one copies all; its old image, and its new one.
func greatest() (old, next, patch []byte) {
	const far = 1 << 20
	old = counted(1, far+2)
	var steps, copies []int
	for i := range 65536 {
		if i%2 == 0 {
			steps, next = append(steps, 1, 0, far), append(next, old[0])
		} else {
			steps, next = append(steps, 1, 0, -far-2), append(next, old[far+1])
		}
		copies = append(copies, 0, 1, 0)
	}
	steps[len(steps)-1] = 0
	own := counted(5, 65536)
	next = append(next, own...)
	h := headOf(old, next)
	h.Window, h.Look = 65536, 32768
	return old, next, patchOf(h, plain(0, controlOf(steps...), make([]byte, 65536), nil), plain(0, controlOf(copies...), nil, own))
}

// R8, P24.5: what it holds was made by New, and is all that Held tells: while the greatest windows' streams come in, just about as much is held on top of what the flash has.
func TestMadeOnce(t *testing.T) {
	old, next, patch := greatest()
	f := mustFlash(t, shape(4096, 257), 0, old)
	// The new slot's pages are there ahead of it, so that they are no more memory later.
	for at := range 32 {
		ok(t, f.Erase(1, at), f.Program(1, at, old[:4096]))
	}
	empty := inUse()
	a := mustNew(t, f, 65536, 32768)
	made := inUse()
	if n := made - empty; n < a.Held()*9/10 || n > a.Held()+16384 {
		t.Errorf("New has made %d bytes, and Held is %d", n, a.Held())
	}
	for part := range slices.Chunk(patch, 40000) {
		ok(t, a.Feed(part))
		if n := inUse() - made; n > 16384 || n < -16384 {
			t.Errorf("%d bytes more are held", n)
		}
	}
	ok(t, a.Finish())
	expectRead(t, f, 1, next)
	runtime.KeepAlive(patch)
}
