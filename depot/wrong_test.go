package depot_test

import (
	"fmt"
	"math"
	"reflect"
	"slices"
	"testing"

	"sapper/api"
	"sapper/depot"
)

// The chapter's list of functions; the methods are those of depoter.
var (
	_ func(api.Options) (*depot.Depot, api.Errno) = depot.New
	_ func([]byte) api.Key                        = depot.KeyOf
	_ depoter                                     = (*depot.Depot)(nil)
)

// R5: a depot that no call made, nil and zero, at each of its methods, over and over, with whatever else is wrong.
func TestUnmade(t *testing.T) {
	a := keyOf([]byte("a"))
	for name, d := range map[string]*depot.Depot{"nil": nil, "zero": {}, "zero by new": new(depot.Depot)} {
		for range 2 {
			for _, image := range [][]byte{nil, {}, []byte("a"), make([]byte, api.MaxImage+1)} {
				if k, err := d.Add(image); k != (api.Key{}) || err != api.ErrMade {
					t.Errorf("%s: Add: %v, %v", name, k, err)
				}
			}
			for _, k := range []api.Key{{}, a, {Size: -1}} {
				expect(t, name+": Drop", d.Drop(k), api.ErrMade)
				expectImage(t, name, d, k, nil, api.ErrMade)
				for _, x := range []api.Ask{ask(k, k), ask(a, k), ask(k, a)} {
					expectPatch(t, name, d, x, nil, api.ErrMade)
					expectRoute(t, name, d, x, nil, 0, api.ErrMade)
					for _, workers := range []int{math.MinInt, -1, 0, 1, api.MaxWorkers, api.MaxWorkers + 1, math.MaxInt} {
						expectServed(t, name, d, workers, []api.Ask{x, x}, nil, api.ErrMade)
						expectServed(t, name, d, workers, nil, nil, api.ErrMade)
					}
				}
			}
			expectKept(t, name, d, 0)
			if d != nil && *d != (depot.Depot{}) {
				t.Errorf("%s: it has changed", name)
			}
		}
	}
}

// The chapter's list of calls: a depot has no others, and nothing that is to be seen.
func TestCalls(t *testing.T) {
	var got []string
	x := reflect.TypeFor[*depot.Depot]()
	for i := range x.NumMethod() {
		got = append(got, x.Method(i).Name)
	}
	if !slices.Equal(got, []string{"Add", "Drop", "Image", "Keys", "Made", "Patch", "Route", "Serve"}) {
		t.Errorf("%v", got)
	}
	for i := range x.Elem().NumField() {
		if f := x.Elem().Field(i); f.IsExported() || f.Anonymous {
			t.Errorf("%s is to be seen", f.Name)
		}
	}
}

// The errors' numbers, as the chapter and those below it have them.
func TestErrors(t *testing.T) {
	first := digits(40)
	d, l := stocked(t, "a", "b", string(first))
	_, option := depot.New(api.Options{})
	_, many := d.Add(make([]byte, api.MaxImage+1))
	_, clash := d.Add(twin(first, 8, 0))
	_, image := d.Image(api.Key{})
	_, patch := d.Patch(ask(l[0], api.Key{}))
	_, _, to := d.Route(ask(l[0], api.Key{}))
	_, _, route := d.Route(ask(l[0], l[1]))
	_, arg := d.Serve(0)
	_, made := (*depot.Depot)(nil).Serve(1)
	for name, c := range map[string]struct {
		err  api.Errno
		want int
	}{
		"option": {option, 200}, "many": {many, 271}, "clash": {clash, 272}, "image": {image, 270}, "patch": {patch, 270}, "drop": {d.Drop(api.Key{}), 270},
		"to": {to, 270}, "route": {route, 273}, "arg": {arg, 1}, "made": {made, 2},
	} {
		if int(c.err) != c.want {
			t.Errorf("%s: %d, not %d", name, int(c.err), c.want)
		}
	}
}

// R3: nil and empty lists are the same.
func TestNone(t *testing.T) {
	for _, none := range [][]byte{nil, {}, make([]byte, 0, 99), []byte("xyz")[:0]} {
		d, l := stocked(t, "a")
		if k := depot.KeyOf(none); k != (api.Key{}) {
			t.Errorf("KeyOf: %v", k)
		}
		if k := mustAdd(t, d, none); k != (api.Key{}) {
			t.Errorf("Add: %v", k)
		}
		expectImage(t, "none", d, api.Key{}, nil, api.OK)
		expectPatch(t, "none", d, ask(api.Key{}, l[0]), generate(nil, []byte("a"), usual()), api.OK)
		expectPatch(t, "none", d, ask(l[0], api.Key{}), generate([]byte("a"), nil, usual()), api.OK)
		expectPatch(t, "none", d, ask(api.Key{}, api.Key{}), generate(nil, nil, usual()), api.OK)
		for _, asks := range [][]api.Ask{nil, {}, make([]api.Ask, 0, 9)} {
			expectServed(t, "none", d, 1, asks, nil, api.OK)
		}
		expectKept(t, "none", d, 3, api.Key{}, l[0])
		expect(t, "Drop", d.Drop(api.Key{}), api.OK)
		expectKept(t, "gone", d, 0, l[0])
	}
}

// R1: names and numbers at their ends.
func TestNumbersAtTheirEnds(t *testing.T) {
	d, l := stocked(t, "a", "b")
	for _, n := range []int{math.MinInt, math.MinInt + 1, -1, 0, 1, 1 << 24, 1<<24 + 1, 1 << 31, 1 << 40, math.MaxInt - 1, math.MaxInt} {
		for _, sum := range []uint32{0, 1, 1 << 31, math.MaxUint32, l[0].Sum} {
			k := api.Key{Size: n, Sum: sum, Ends: [16]byte{255, 15: 255}}
			expect(t, "Drop", d.Drop(k), api.ErrDepotImage)
			expectImage(t, "ends", d, k, nil, api.ErrDepotImage)
			for _, a := range []api.Ask{ask(k, k), ask(l[0], k), ask(k, l[0])} {
				expectPatch(t, "ends", d, a, nil, api.ErrDepotImage)
				expectRoute(t, "ends", d, a, nil, 0, api.ErrDepotImage)
				expectServed(t, "ends", d, 1, []api.Ask{a}, []api.Reply{{Err: api.ErrDepotImage}}, api.OK)
			}
		}
		want := api.ErrArg
		if n == 1 {
			want = api.OK
		}
		expectServed(t, "ends", d, n, nil, nil, want)
	}
	expectKept(t, "ends", d, 0, l[1], l[0])
}

// A copy of what a depot points to is the same depot: there is one lock, and one of each map.
func TestCopied(t *testing.T) {
	d, l := stocked(t, "a", "b")
	x := *d
	expect(t, "Drop", x.Drop(l[0]), api.OK)
	expectKept(t, "d", d, 0, l[1])
	mustAdd(t, d, []byte("c"))
	expectPatch(t, "x", &x, ask(l[1], keyOf([]byte("c"))), generate([]byte("b"), []byte("c"), usual()), api.OK)
	if toldOf(d) != toldOf(&x) || d.Made() != 1 {
		t.Errorf("%s, not %s", toldOf(d), toldOf(&x))
	}
}

// R4: two depots know nothing of each other, nor of how they take turns: several in turn are the same as one behind the other.
func TestSideBySide(t *testing.T) {
	const many = 6
	var want [many]string
	for i := range want {
		r := rolls(50 + i)
		p := lived(t, &r, 30)
		want[i] = toldOf(p.d) + routesOf(p.d)
	}
	var pairs [many]*pair
	var rows [many]rolls
	for i := range pairs {
		rows[i] = rolls(50 + i)
		pairs[i] = lived(t, &rows[i], 0)
	}
	for range 30 {
		for _, p := range pairs {
			p.step()
		}
	}
	for i, p := range pairs {
		if toldOf(p.d)+routesOf(p.d) != want[i] {
			t.Errorf("%d: another end", i)
		}
	}
}

// R4: several at one time, each with images of its own and the same names: the same as by itself.
func TestOwnDepotsAtOnce(t *testing.T) {
	base := digits(100)
	var got [8]string
	run := func(i int) string {
		d, _ := depot.New(usual())
		a, _ := d.Add([]byte("a"))
		b, _ := d.Add(twin(base, 20, i))
		var l []api.Reply
		for range 5 {
			l, _ = d.Serve(3, ask(a, b), ask(b, a), ask(b, b))
		}
		return fmt.Sprint(l) + toldOf(d)
	}
	atOnce(8, func(i int) { got[i] = run(i) })
	for i, text := range got {
		if text != run(i) {
			t.Errorf("%d: another end", i)
		}
	}
}
