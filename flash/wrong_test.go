package flash_test

import (
	"bytes"
	"math"
	"reflect"
	"slices"
	"testing"

	"sapper/api"
	"sapper/flash"
)

// R5: a device that no call made, nil and zero, at each of its functions, also behind calls of it.
func TestUnmade(t *testing.T) {
	for name, f := range map[string]*flash.Flash{"nil": nil, "zero": {}, "zero by new": new(flash.Flash)} {
		for _, n := range []int{0, 1, 2, 64, -1, math.MinInt, math.MaxInt} {
			f.Power()
			if f.Shape() != (api.Shape{}) || f.Active() != 0 || f.On() || f.Log() != nil || f.Ops() != 0 {
				t.Errorf("%s: %v, %d, %v, %v, %d", name, f.Shape(), f.Active(), f.On(), f.Log(), f.Ops())
			}
			expect(t, name+": Turn", f.Turn(), api.ErrMade)
			expect(t, name+": Erase", f.Erase(n, n), api.ErrMade)
			expect(t, name+": Program", f.Program(n, n, nil), api.ErrMade)
			expect(t, name+": Program of many", f.Program(n, n, make([]byte, 5000)), api.ErrMade)
			expect(t, name+": Cut", f.Cut(n, nil), api.ErrMade)
			expect(t, name+": Cut, many", f.Cut(n, make([]byte, 5000)), api.ErrMade)
			expect(t, name+": Limit", f.Limit(n), api.ErrMade)
			expectNoRead(t, f, 0, 0, n, api.ErrMade)
			expectNoRead(t, f, n, n, n, api.ErrMade)
			if is, err := f.Erased(n, n); is || err != api.ErrMade {
				t.Errorf("%s: Erased: %v, %v", name, is, err)
			}
			if wear, err := f.Wear(n, n); wear != 0 || err != api.ErrMade {
				t.Errorf("%s: Wear: %d, %v", name, wear, err)
			}
			if b, err := f.Save(); b != nil || err != api.ErrMade {
				t.Errorf("%s: Save: % x, %v", name, b, err)
			}
			if f != nil && !reflect.DeepEqual(*f, flash.Flash{}) {
				t.Errorf("%s: it has changed", name)
			}
		}
	}
}

// The chapter's list of calls: a device has no others.
func TestCalls(t *testing.T) {
	var got []string
	x := reflect.TypeFor[*flash.Flash]()
	for i := range x.NumMethod() {
		got = append(got, x.Method(i).Name)
	}
	want := []string{"Active", "Cut", "Erase", "Erased", "Limit", "Log", "On", "Ops", "Power", "Program", "Read", "Save", "Shape", "Turn", "Wear"}
	if !slices.Equal(got, want) {
		t.Errorf("%v", got)
	}
}

// R1, R6: each call ends, and none panics, of numbers at their ends; it answers what the chapter says.
func TestAnyNumbers(t *testing.T) {
	ends := []int{math.MinInt, math.MinInt + 1, math.MinInt32, -129, -1, 0, 1, 2, 3, 63, 64, 127, 128, 129, 1 << 40, 1<<40 + 1, math.MaxInt32, math.MaxInt - 1, math.MaxInt}
	slots := [2][]byte{[]byte("old"), nil}
	f := small(t)
	m, _ := modelNew(f.Shape(), 0, slots)
	for _, x := range ends {
		for _, y := range ends {
			for area := -1; area <= 3; area++ {
				b, err := f.Read(area, x, y)
				if want, wantErr := m.Read(area, x, y); !bytes.Equal(b, want) || err != wantErr {
					t.Errorf("Read(%d, %d, %d): %v, not %v", area, x, y, err, wantErr)
				}
			}
			is, err := f.Erased(x, y)
			if want, wantErr := m.Erased(x, y); is != want || err != wantErr {
				t.Errorf("Erased(%d, %d): %v, %v", x, y, is, err)
			}
			expect(t, "Erase", f.Erase(x, y), m.Erase(x, y))
			expect(t, "Program", f.Program(x, y, []byte("x")), m.Program(x, y, []byte("x")))
			expect(t, "Program again", f.Program(x, y, nil), m.Program(x, y, nil))
			wear, err := f.Wear(x, y)
			if want, wantErr := m.Wear(x, y); wear != want || err != wantErr {
				t.Errorf("Wear(%d, %d): %d, %v", x, y, wear, err)
			}
		}
		expect(t, "Limit", f.Limit(x), m.Limit(x))
		ok(t, f.Limit(0), m.Limit(0))
		expect(t, "Cut", f.Cut(x, nil), m.Cut(x, nil))
		ok(t, f.Cut(0, nil), m.Cut(0, nil))
		if _, err := flash.New(api.Shape{Page: x, Pages: x}, x, slots); err != api.ErrFlashSetup {
			t.Errorf("New of %d: %v", x, err)
		}
	}
	if allOf(f) != allOf(m) {
		t.Errorf("%s, not %s", allOf(f), allOf(m))
	}
}

// R3: nil and empty lists are the same, as each of the lists.
func TestNil(t *testing.T) {
	for _, none := range [][]byte{nil, {}, make([]byte, 0, 9), []byte("xyz")[:0]} {
		f := mustNew(t, api.Shape{Page: 64, Pages: 1}, 0, none, none)
		expectPage(t, f, 0, 0, nil, false, 0)
		expectPage(t, f, 1, 0, nil, false, 0)
		ok(t, f.Program(2, 0, none))
		expectPage(t, f, 2, 0, nil, false, 0)
		ok(t, f.Cut(1, none))
		expect(t, "cut", f.Program(2, 1, []byte("x")), api.ErrFlashPower)
		f.Power()
		expectPage(t, f, 2, 1, nil, false, 0)
		expectNoLoad(t, "none", none)
		expectRead(t, f, 0, 0, nil)
	}
	f, err := flash.New(api.Shape{Page: 64, Pages: 1}, 0, [2][]byte{})
	if err != api.OK || f.Log() != nil && len(f.Log()) != 0 {
		t.Error(err, f.Log())
	}
}

// R3: what is handed in stays as it was, the room behind it, too, and may be written over behind the call.
func TestMemoryHandedIn(t *testing.T) {
	r := rolls(20)
	for range 200 {
		s, active, slots := r.setup()
		first, firstSame := lent(slots[0])
		second, secondSame := lent(slots[1])
		f := mustNew(t, s, active, first, second)
		m, _ := modelNew(s, active, slots)
		if !firstSame() || !secondSame() {
			t.Fatal("New has changed what was handed in")
		}
		spoil(first, 200)
		spoil(second, 201)
		expectRead(t, f, 0, 0, filled(slots[0], s.Page*s.Pages))
		expectRead(t, f, 1, 0, filled(slots[1], s.Page*s.Pages))
		for range 30 {
			area, page, b := r.below(3), r.below(2), r.piece(s.Page)
			given, same := lent(b)
			switch r.below(3) {
			case 0:
				expect(t, "Program", f.Program(area, page, given), m.Program(area, page, b))
			case 1:
				n := r.below(3)
				expect(t, "Cut", f.Cut(n, given), m.Cut(n, b))
			case 2:
				expect(t, "Erase", f.Erase(area, page), m.Erase(area, page))
			}
			if !same() {
				t.Fatal("what was handed in has changed")
			}
			spoil(given, 202)
			if r.below(3) == 0 {
				f.Power()
				m.Power()
			}
		}
		f.Power()
		m.Power()
		if allOf(f) != allOf(m) {
			t.Fatalf("%s, not %s", allOf(f), allOf(m))
		}
		given, same := lent(mustSave(t, m))
		g := mustLoad(t, given)
		if !same() {
			t.Fatal("Load has changed what was handed in")
		}
		spoil(given, 203)
		if !bytes.Equal(mustSave(t, g), mustSave(t, m)) {
			t.Fatal("what was loaded has changed")
		}
	}
}

// R3: what was answered may be written over, and stays as it is, whatever is done later.
func TestMemoryAnswered(t *testing.T) {
	r := rolls(21)
	for range 100 {
		f := r.worked(t)
		s := f.Shape()
		was := allOf(f)
		for area, n := range pagesOf(s) {
			for _, from := range []int{0, s.Page, 5} {
				b, err := f.Read(area, min(from, n*s.Page), n*s.Page-min(from, n*s.Page))
				ok(t, err)
				spoil(b, 200)
			}
		}
		spoil(f.Log(), api.Op{Kind: 9, Area: 9, Page: 9})
		spoil(mustSave(t, f), 201)
		if allOf(f) != was {
			t.Fatalf("%s has become %s", was, allOf(f))
		}
		read, err := f.Read(0, 0, s.Page)
		ok(t, err)
		log, saved := f.Log(), mustSave(t, f)
		readWas, logWas, savedWas := slices.Clone(read), slices.Clone(log), slices.Clone(saved)
		for range 30 {
			r.call(s).do(f)
			f.Power()
		}
		f.Erase(0, 0)
		f.Program(0, 0, r.data(s.Page))
		if !bytes.Equal(read, readWas) || !slices.Equal(log, logWas) || !bytes.Equal(saved, savedWas) {
			t.Fatal("what was answered has changed")
		}
	}
}

// R4: devices know nothing of each other, those made of the same bytes, and one and the one that was saved.
func TestSideBySide(t *testing.T) {
	r := rolls(22)
	for range 60 {
		s, active, slots := r.setup()
		saved := mustSave(t, mustNew(t, s, active, slots[0], slots[1]))
		var l [4]*flash.Flash
		var m [4]*model
		for i := range l {
			m[i], _ = modelNew(s, active, slots)
			l[i] = mustLoad(t, saved)
			if i < 2 {
				l[i] = mustNew(t, s, active, slots[0], slots[1])
			}
		}
		for range 120 {
			i := r.below(4)
			both(t, r.call(s), l[i], m[i])
		}
		for i := range l {
			if allOf(l[i]) != allOf(m[i]) {
				t.Fatalf("%s, not %s", allOf(l[i]), allOf(m[i]))
			}
		}
	}
}

// R4: several at one time.
func TestAtOneTime(t *testing.T) {
	done := make(chan bool)
	for i := range 8 {
		go func() {
			r := rolls(i)
			s, active, slots := r.setup()
			f, _ := flash.New(s, active, slots)
			m, _ := modelNew(s, active, slots)
			right := f != nil
			for range 200 {
				c := r.call(s)
				right = right && c.do(f) == c.do(m)
			}
			done <- right && allOf(f) == allOf(m)
		}()
	}
	for range 8 {
		if !<-done {
			t.Error("another answer")
		}
	}
}
