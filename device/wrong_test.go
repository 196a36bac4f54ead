package device_test

import (
	"bytes"
	"math"
	"reflect"
	"slices"
	"testing"

	"sapper/api"
	"sapper/device"
)

// The chapter's list of functions; the methods are those of devicer.
var (
	_ func(api.Shape, []byte, int) (*device.Device, api.Errno) = device.New
	_ func([]byte) (*device.Device, api.Errno)                 = device.Load
	_ devicer                                                  = (*device.Device)(nil)
)

// R5: a device that no call made, nil and zero, at each of its methods, over and over.
func TestUnmade(t *testing.T) {
	for name, d := range map[string]*device.Device{"nil": nil, "zero": {}, "zero by new": new(device.Device)} {
		for range 2 {
			expectStart(t, name, d, api.Image{}, api.ErrMade)
			for _, n := range []int{64, 0, -1, math.MaxInt} {
				expect(t, name+": Begin", d.Begin(n, n), api.ErrMade)
				refusedFinish(t, name, d, n, n, api.ErrMade)
				expect(t, name+": Cut", d.Cut(n, make([]byte, 5000)), api.ErrMade)
				if b, err := d.Image(api.Image{Slot: n, Size: n}); len(b) != 0 || err != api.ErrMade {
					t.Errorf("%s: Image: %x, %v", name, b, err)
				}
			}
			for _, b := range [][]byte{nil, {}, []byte("SAPR"), make([]byte, 5000)} {
				expect(t, name+": Feed", d.Feed(b), api.ErrMade)
			}
			if r, err := d.Confirm(); r != (api.Record{}) || err != api.ErrMade {
				t.Errorf("%s: Confirm: %v, %v", name, r, err)
			}
			d.Power()
			expectRecord(t, name, d, api.Record{}, api.ErrMade)
			expectDoing(t, name, d, api.Image{}, false)
			if h, is := d.Updating(); h != (api.Head{}) || is || d.On() || len(d.Log()) != 0 || d.Held() != 0 {
				t.Errorf("%s: %v, %v, %v, %v, %d", name, h, is, d.On(), d.Log(), d.Held())
			}
			if b, err := d.Save(); len(b) != 0 || err != api.ErrMade {
				t.Errorf("%s: Save: %x, %v", name, b, err)
			}
			if d != nil && *d != (device.Device{}) {
				t.Errorf("%s: it has changed", name)
			}
		}
	}
}

// The chapter's list of calls: a device has no others, none of the flash's or the applier's either, and nothing that is to be seen.
func TestCalls(t *testing.T) {
	var got []string
	x := reflect.TypeFor[*device.Device]()
	for i := range x.NumMethod() {
		got = append(got, x.Method(i).Name)
	}
	if !slices.Equal(got, []string{"Begin", "Confirm", "Cut", "Feed", "Finish", "Held", "Image", "Log", "On", "Power", "Record", "Running", "Save", "Start", "Updating"}) {
		t.Errorf("%v", got)
	}
	for i := range x.Elem().NumField() {
		if f := x.Elem().Field(i); f.IsExported() || f.Anonymous {
			t.Errorf("%s is to be seen", f.Name)
		}
	}
}

// The errors' numbers, as the chapter and those below it have them.
func TestErrors(t *testing.T) {
	d := small(t)
	phase := d.Feed(nil)
	_, image := d.Image(newImage)
	_, setup := device.New(api.Shape{}, nil, 1)
	_, record := device.New(shape(64, 1), nil, 0)
	_, form := device.Load(nil)
	_, made := (*device.Device)(nil).Start()
	arg := d.Cut(-1, nil)
	ok(t, d.Cut(1, nil))
	expectStart(t, "good", d, oldImage, api.OK)
	size := d.Begin(0, 0)
	ok(t, d.Begin(64, 100), d.Feed(patch(t)))
	_, flash := d.Finish(2, 3)
	_, power := d.Start()
	_, old := updating(t).Finish(0, 3)
	_, none := bare{shape: shape(64, 1)}.device(t).Record()
	for name, c := range map[string]struct {
		err  api.Errno
		want int
	}{
		"phase": {phase, 260}, "image": {image, 261}, "setup": {setup, 210}, "record": {record, 250}, "form": {form, 215}, "made": {made, 2},
		"arg": {arg, 1}, "size": {size, 242}, "flash": {flash, 245}, "power": {power, 213}, "old": {old, 252}, "none": {none, 251},
	} {
		if int(c.err) != c.want {
			t.Errorf("%s: %d, not %d", name, int(c.err), c.want)
		}
	}
}

// R3: nil and empty lists are the same.
func TestNone(t *testing.T) {
	for _, none := range [][]byte{nil, {}, make([]byte, 0, 99), []byte("xyz")[:0]} {
		d := mustNew(t, shape(64, 2), none, 1)
		good := api.Image{Version: 1}
		expectStart(t, "none", d, good, api.OK)
		expectImage(t, "none", d, good, nil)
		ok(t, d.Begin(64, 100), d.Feed(none), d.Feed(mustGenerate(t, none, none, usual())), d.Feed(none))
		r, err := d.Finish(1, 1)
		if want := (api.Record{Seq: 2, Good: good, Next: api.Image{Slot: 1, Version: 1}, Trial: 1}); r != want || err != api.OK {
			t.Errorf("Finish: %v, %v, not %v", r, err, want)
		}
		ok(t, d.Cut(1, none))
		expectStart(t, "cut", d, api.Image{}, api.ErrFlashPower)
		d.Power()
		expectStart(t, "power", d, r.Next, api.OK)
		if x, err := device.Load(none); x != nil || err != api.ErrFlashForm {
			t.Errorf("Load: %v", err)
		}
	}
}

// R1: numbers at their ends, in each state.
func TestNumbersAtTheirEnds(t *testing.T) {
	ends := []int{math.MinInt, math.MinInt + 1, -1, 0, 1, 63, 64, 65536, 1 << 24, 1 << 31, 1 << 40, 1 << 60, math.MaxInt - 1, math.MaxInt}
	for name, d := range states(t) {
		for _, a := range ends {
			for _, b := range ends {
				d.Image(api.Image{Slot: a, Version: b, Size: b, Sum: 1})
				d.Image(api.Image{Slot: 1, Version: b, Size: a})
				if r, err := d.Finish(a, b); err != api.OK && r != (api.Record{}) {
					t.Errorf("%s: Finish(%d, %d): %v, %v", name, a, b, r, err)
				}
				if a != 64 && a != 65536 || b < 1 || b > 32768 {
					if d.Begin(a, b) == api.OK {
						t.Errorf("%s: Begin(%d, %d)", name, a, b)
					}
				}
				if a < 0 {
					expect(t, name, d.Cut(a, nil), api.ErrArg)
				}
			}
		}
	}
}

// R4: two devices know nothing of each other, nor of how they take turns: several lives in turn are the same as one behind the other.
func TestSideBySide(t *testing.T) {
	const many = 6
	alone := func(i int) string {
		r := rolls(200 + i)
		l := born(t, &r, counts{})
		for range 30 {
			l.step()
		}
		return toldOf(l.d)
	}
	var want [many]string
	for i := range want {
		want[i] = alone(i)
	}
	var lives [many]*life
	var rows [many]rolls
	for i := range lives {
		rows[i] = rolls(200 + i)
		lives[i] = born(t, &rows[i], counts{})
	}
	for range 30 {
		for _, l := range lives {
			l.step()
		}
	}
	for i, l := range lives {
		if toldOf(l.d) != want[i] {
			t.Errorf("%d: another end", i)
		}
	}
}

// R4: several at one time, each over the same bytes: the same end.
func TestAtOneTime(t *testing.T) {
	saved, p := mustSave(t, small(t)), patch(t)
	done := make(chan []byte)
	for range 8 {
		go func() {
			d, _ := device.Load(saved)
			for range 5 {
				d.Start()
				d.Begin(64, 100)
				d.Feed(p)
				d.Finish(2, 3)
				d.Start()
			}
			d.Confirm()
			b, _ := d.Save()
			done <- b
		}()
	}
	want := <-done
	for range 7 {
		if b := <-done; len(b) == 0 || !bytes.Equal(b, want) {
			t.Error("another end")
		}
	}
}
