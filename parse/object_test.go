package parse_test

import (
	"bytes"
	"reflect"
	"slices"
	"testing"

	"sapper/api"
	"sapper/parse"
)

// R5: a parser that no call made, nil and zero, at each of its functions, also behind calls of it.
func TestUnmade(t *testing.T) {
	for name, p := range map[string]*parse.Parser{"nil": nil, "zero": {}, "zero by new": new(parse.Parser)} {
		for _, b := range [][]byte{nil, {}, {'S'}, {0}, basePatch(), basePatch()[:21]} {
			if told, n, err := p.Step(b); !same(told, api.Event{}) || n != 0 || err != api.ErrMade {
				t.Errorf("%s: Step(% x): %v, %d, %v", name, b, told, n, err)
			}
			if err := p.End(); err != api.ErrMade {
				t.Errorf("%s: End: %v", name, err)
			}
			if h, told := p.Head(); h != (api.Head{}) || told {
				t.Errorf("%s: Head: %v, %v", name, h, told)
			}
			if p.Made() != 0 || p.Taken() != 0 || p.Done() || p.Room() != 0 {
				t.Errorf("%s: Made %d, Taken %d, Done %v, Room %d", name, p.Made(), p.Taken(), p.Done(), p.Room())
			}
			if p != nil && *p != (parse.Parser{}) {
				t.Errorf("%s: it has changed", name)
			}
		}
	}
}

// P19.4: Room is 64, whatever was done: at each place of patches, of wrong ones, behind the end and behind an error.
func TestRoom(t *testing.T) {
	l := patches()
	for _, c := range wrongPatches() {
		l = append(l, c.b)
	}
	for _, b := range l {
		p := parse.New()
		for i := range b {
			if p.Room() != 64 {
				t.Fatalf("behind %d bytes of % x: %d", i, b, p.Room())
			}
			p.Step(b[i : i+1])
		}
		p.Step(b)
		if p.Room() != 64 {
			t.Fatalf("behind % x: %d", b, p.Room())
		}
	}
}

// R8: of a patch nothing is kept but numbers: there is no list that could grow, and no way to what was handed in.
func TestNumbersAlone(t *testing.T) {
	var walk func(x reflect.Type)
	walk = func(x reflect.Type) {
		switch x.Kind() {
		case reflect.Struct:
			for i := range x.NumField() {
				walk(x.Field(i).Type)
			}
		case reflect.Array:
			walk(x.Elem())
		case reflect.Slice, reflect.Map, reflect.Pointer, reflect.String, reflect.Interface, reflect.Func, reflect.Chan:
			t.Errorf("a parser keeps a %v", x)
		}
	}
	walk(reflect.TypeFor[parse.Parser]())
}

// The chapter's list of calls: a parser has no others.
func TestCalls(t *testing.T) {
	var got []string
	x := reflect.TypeFor[*parse.Parser]()
	for i := range x.NumMethod() {
		got = append(got, x.Method(i).Name)
	}
	if want := []string{"Done", "End", "Head", "Made", "Room", "Step", "Taken"}; !slices.Equal(got, want) {
		t.Errorf("%v", got)
	}
}

// R4: two parsers side by side know nothing of each other, whatever one of them is given.
func TestSideBySide(t *testing.T) {
	r := rolls(8)
	for range 400 {
		var l [3]pair
		for i := range l {
			h, parts := r.patch()
			b := sealed(headBytes(h), slices.Concat(parts...))
			if r.below(3) == 0 {
				b = r.bent(b)
			}
			l[i] = pairOf(t, b)
		}
		for !l[0].over() || !l[1].over() || !l[2].over() {
			x := l[r.below(3)]
			x.step(min(r.below(20), x.left()))
			for _, other := range l {
				other.hold()
			}
		}
	}
}

// roomy: the same, with room behind it that holds others; and all of it.
func roomy(b []byte) ([]byte, []byte) {
	all := append(slices.Clone(b), 'S', 77, 77, 77)
	return all[:len(b):len(all)], all
}

// spoil: all of a list, and the room behind it, is written over, and it is appended to.
func spoil(l []byte, v byte) {
	for i := range l[:cap(l)] {
		l[:cap(l)][i] = v
	}
	_ = append(l, v)
	_ = append(l[:0], v)
}

// cloned: an event as it is now.
func cloned(e api.Event) api.Event {
	e.Bytes = slices.Clone(e.Bytes)
	return e
}

// R3: bytes that were handed in stay as they were, the room behind them, too, and may be written over behind the call; so may what was answered: nothing that is told later, or was told ahead, changes.
func TestMemoryOfStep(t *testing.T) {
	r := rolls(9)
	for range 400 {
		h, parts := r.patch()
		b := sealed(headBytes(h), slices.Concat(parts...))
		m := modelOf(b)
		p := parse.New()
		var told, want []api.Event
		for m.taken < len(b) {
			at := m.taken
			given, all := roomy(b[at:min(len(b), at+r.below(50))])
			was := slices.Clone(all)
			got, n, err := p.Step(given)
			if !bytes.Equal(all, was) {
				t.Fatalf("behind %d bytes: what was handed in has changed", at)
			}
			spoil(given, 200)
			spoil(all, 200)
			expect, expectN, expectErr := m.step(len(was) - 4)
			if !same(got, expect) || n != expectN || err != expectErr {
				t.Fatalf("% x: behind %d bytes: %v, %d, %v, not %v, %d, %v", b, at, got, n, err, expect, expectN, expectErr)
			}
			if r.below(2) == 0 {
				spoil(got.Bytes, 210)
				continue
			}
			told, want = append(told, got), append(want, cloned(expect))
		}
		if !sameAll(told, want) {
			t.Fatalf("% x: what was told has become %v, and was %v", b, told, want)
		}
		if !p.Done() || p.Taken() != len(b) {
			t.Fatalf("% x: %d bytes were taken", b, p.Taken())
		}
		if got, _ := p.Head(); got != h {
			t.Fatalf("% x: Head %v", b, got)
		}
	}
}

// R3: what All is given stays as it was; no list of what it answers shares memory with another one, with the bytes, or with another answer.
func TestMemoryOfAll(t *testing.T) {
	r := rolls(10)
	for range 400 {
		h, parts := r.patch()
		b := sealed(headBytes(h), slices.Concat(parts...))
		given, all := roomy(b)
		was := slices.Clone(all)
		l, err := parse.All(given)
		other, otherErr := parse.All(given)
		if err != api.OK || otherErr != api.OK || !bytes.Equal(all, was) {
			t.Fatal(err, otherErr, "or the bytes have changed")
		}
		var want []api.Event
		for _, e := range l {
			want = append(want, cloned(e))
		}
		for i := range other {
			spoil(other[i].Bytes, 200)
			other[i] = api.Event{Kind: -1}
		}
		spoil(given, 210)
		if !sameAll(l, want) {
			t.Fatalf("% x: %v has become %v", b, want, l)
		}
		for i := range l {
			spoil(l[i].Bytes, byte(i))
			if !sameAll(l[i+1:], want[i+1:]) {
				t.Fatalf("% x: the bytes of event %d share memory with some behind them", b, i)
			}
		}
		for i, e := range l {
			if slices.ContainsFunc(e.Bytes, func(v byte) bool { return v != byte(i) }) {
				t.Fatalf("% x: the bytes of event %d share memory with some ahead of them", b, i)
			}
		}
		_ = append(l, api.Event{})
		if again, err := parse.All(b); err != api.OK || !sameAll(again, want) {
			t.Fatalf("% x: %v, %v, and was %v", b, again, err, want)
		}
	}
}

// R3, R4: nil and empty lists are the same, and what lies in the room behind a list's end is no part of it.
func TestNilAndRoom(t *testing.T) {
	b := basePatch()
	for at := range len(b) + 1 {
		for _, none := range [][]byte{nil, {}, b[at:at]} {
			p := fed(t, b[:at])
			if told, n, err := p.Step(none); !same(told, api.Event{}) || n != 0 || err != api.OK || p.Taken() != at {
				t.Errorf("behind %d bytes: %v, %d, %v", at, told, n, err)
			}
			if at < len(b) {
				if _, n, err := p.Step(b[at:]); n == 0 || err != api.OK {
					t.Errorf("behind %d bytes, and none: %d, %v", at, n, err)
				}
			}
		}
		if at < len(b) {
			if _, err := parse.All(b[:at]); err != api.ErrParseEnd {
				t.Errorf("the first %d bytes: %v", at, err)
			}
		}
	}
}
