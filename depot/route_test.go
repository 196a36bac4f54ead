package depot_test

import (
	"slices"
	"testing"

	"sapper/api"
	"sapper/depot"
)

// stage: an image with bytes put ahead of it, and every sixteenth byte raised, at each stage at other places than at the one ahead. From one stage to the next one much stays the same; over two of them nothing that a maker finds.
func stage(image []byte, ahead string, stages int) []byte {
	out := slices.Clone(image)
	for i := range out {
		for s := range stages {
			if i%16 == 8*(s%2) {
				out[i]++
			}
		}
	}
	return append([]byte(ahead), out...)
}

// size: how many bytes the patch has.
func size(from, to []byte) int { return len(generate(from, to, usual())) }

// asked: a depot with these images that was asked for the patches between those at the places named, two of them each.
func asked(t *testing.T, images [][]byte, places ...[2]int) (*depot.Depot, []api.Key) {
	t.Helper()
	d := mustNew(t, usual())
	var names []api.Key
	for _, b := range images {
		names = append(names, mustAdd(t, d, b))
	}
	for _, p := range places {
		if _, err := d.Patch(ask(names[p[0]], names[p[1]])); err != api.OK {
			t.Fatal(err)
		}
	}
	return d, names
}

// P27.10: no patches that lead there: none at all, one back, and ones beside.
func TestNoRoute(t *testing.T) {
	images := [][]byte{[]byte("a"), []byte("b"), []byte("c"), []byte("d")}
	for _, places := range [][][2]int{nil, {{1, 0}}, {{0, 2}, {3, 1}}, {{0, 0}, {1, 1}}, {{0, 2}, {2, 3}, {3, 0}, {1, 2}, {1, 0}}} {
		d, l := asked(t, images, places...)
		expectRoute(t, "none", d, ask(l[0], l[1]), nil, 0, api.ErrDepotRoute)
		if d.Made() != len(places) {
			t.Errorf("Made %d", d.Made())
		}
	}
}

// P27.10: From To itself, with no patches, with one to itself, and with ways round.
func TestRouteToItself(t *testing.T) {
	images := [][]byte{[]byte("a"), []byte("b"), {}}
	for _, places := range [][][2]int{nil, {{0, 0}}, {{0, 1}, {1, 0}}, {{0, 0}, {0, 1}, {1, 1}, {1, 0}, {2, 2}}} {
		d, l := asked(t, images, places...)
		for _, k := range l {
			expectRoute(t, "itself", d, ask(k, k), []api.Key{k}, 0, api.OK)
		}
	}
	d, l := asked(t, images, [2]int{0, 0}, [2]int{1, 1}, [2]int{0, 1})
	expectRoute(t, "past the ones to themselves", d, ask(l[0], l[1]), []api.Key{l[0], l[1]}, size(images[0], images[1]), api.OK)
}

// P27.10: From or To not kept, both, and no more.
func TestRouteOfNone(t *testing.T) {
	images := [][]byte{[]byte("a"), []byte("b"), {}}
	d, l := asked(t, images, [2]int{0, 1}, [2]int{1, 2}, [2]int{2, 0})
	none := keyOf([]byte("none"))
	for _, k := range l {
		expectRoute(t, "From", d, ask(none, k), nil, 0, api.ErrDepotImage)
		expectRoute(t, "To", d, ask(k, none), nil, 0, api.ErrDepotImage)
	}
	expectRoute(t, "both", d, ask(none, none), nil, 0, api.ErrDepotImage)
	expectRoute(t, "over one", d, ask(l[0], l[2]), l, size(images[0], images[1])+size(images[1], images[2]), api.OK)
	expect(t, "Drop", d.Drop(l[1]), api.OK)
	expectRoute(t, "From is gone", d, ask(l[1], l[2]), nil, 0, api.ErrDepotImage)
	expectRoute(t, "itself is gone", d, ask(l[1], l[1]), nil, 0, api.ErrDepotImage)
	expectRoute(t, "the one between is gone", d, ask(l[0], l[2]), nil, 0, api.ErrDepotRoute)
	mustAdd(t, d, images[1])
	expectRoute(t, "and there again", d, ask(l[0], l[2]), nil, 0, api.ErrDepotRoute)
	expectRoute(t, "back", d, ask(l[2], l[0]), []api.Key{l[2], l[0]}, size(images[2], images[0]), api.OK)
}

// P27.10: one patch; and a way of several that has fewer bytes than the one, as long as all of it is kept.
func TestFewerBytes(t *testing.T) {
	o := usual()
	o.Window = 1000
	r := rolls(8)
	first := r.data(200)
	d := mustNew(t, o)
	var l []api.Key
	var n [4][4]int
	images := [][]byte{first, stage(first, "p", 1), stage(first, "pq", 2), stage(first, "pqr", 3)}
	for i, from := range images {
		l = append(l, mustAdd(t, d, from))
		for j, to := range images {
			n[i][j] = len(generate(from, to, o))
		}
	}
	two, three := n[0][1]+n[1][2], n[0][1]+n[1][2]+n[2][3]
	if n[0][2] <= two || n[0][3] <= three || n[0][1]+n[1][3] <= three || n[0][2]+n[2][3] <= three {
		t.Fatal(n)
	}
	d.Patch(ask(l[0], l[2]))
	expectRoute(t, "one patch", d, ask(l[0], l[2]), []api.Key{l[0], l[2]}, n[0][2], api.OK)
	d.Patch(ask(l[0], l[1]))
	expectRoute(t, "half a way", d, ask(l[0], l[2]), []api.Key{l[0], l[2]}, n[0][2], api.OK)
	d.Patch(ask(l[1], l[2]))
	expectRoute(t, "two patches", d, ask(l[0], l[2]), l[:3], two, api.OK)
	d.Serve(2, ask(l[0], l[3]), ask(l[2], l[3]), ask(l[1], l[3]))
	expectRoute(t, "three patches", d, ask(l[0], l[3]), l, three, api.OK)
	expect(t, "Drop", d.Drop(l[1]), api.OK)
	expectRoute(t, "one patch again", d, ask(l[0], l[2]), []api.Key{l[0], l[2]}, n[0][2], api.OK)
}

// P27.10: ways of the same bytes: the one of fewer images, whatever their names are, and whichever was asked for first.
func TestFewerImages(t *testing.T) {
	for _, c := range []struct {
		size  int
		ahead [3]string
	}{{60, [3]string{"", "pq", "pq"}}, {60, [3]string{"rstu", "pq", "pq"}}, {62, [3]string{"rstu", "pq", ""}}} {
		found := 0
		for seed := range 100 {
			r := rolls(seed)
			first := r.data(c.size)
			images := [][]byte{stage(first, c.ahead[0], 0), stage(first, c.ahead[1], 1), stage(first, c.ahead[2], 2)}
			one := size(images[0], images[2])
			if one != size(images[0], images[1])+size(images[1], images[2]) {
				continue
			}
			found++
			for _, places := range [][][2]int{{{0, 2}, {0, 1}, {1, 2}}, {{1, 2}, {0, 1}, {0, 2}}, {{0, 1}, {0, 2}, {1, 2}}} {
				d, l := asked(t, images, places...)
				expectRoute(t, "as many bytes", d, ask(l[0], l[2]), []api.Key{l[0], l[2]}, one, api.OK)
			}
			d, l := asked(t, images, [2]int{0, 1}, [2]int{1, 2})
			expectRoute(t, "the longer one alone", d, ask(l[0], l[2]), l, one, api.OK)
		}
		if found < 20 {
			t.Errorf("%v: %d times as many bytes", c, found)
		}
	}
}

// inOrder: images of two bytes by their names' order, between any two of which the patches have the same number of bytes.
func inOrder(t *testing.T, n int) [][]byte {
	t.Helper()
	var out [][]byte
	for i := range n {
		out = append(out, few(i*259))
	}
	slices.SortFunc(out, func(a, b []byte) int {
		if ahead(keyOf(a), keyOf(b)) {
			return -1
		}
		return 1
	})
	for _, a := range out {
		for _, b := range out {
			if size(a, b) != size(out[0], out[1]) && string(a) != string(b) {
				t.Fatalf("%x to %x: %d bytes", a, b, size(a, b))
			}
		}
	}
	return out
}

// P27.10: ways that are the same in bytes and images and part in a name: the first place where they part tells, and the name that stands ahead there.
func TestFirstName(t *testing.T) {
	images := inOrder(t, 8)
	n := size(images[0], images[1])
	for _, c := range []struct {
		from, to int
		places   [][2]int
		want     []int
	}{
		{0, 7, [][2]int{{0, 3}, {3, 7}, {0, 2}, {2, 7}, {0, 5}, {5, 7}}, []int{0, 2, 7}},
		{7, 0, [][2]int{{7, 3}, {3, 0}, {7, 2}, {2, 0}, {7, 5}, {5, 0}}, []int{7, 2, 0}},
		{4, 5, [][2]int{{4, 1}, {1, 7}, {7, 5}, {4, 2}, {2, 0}, {0, 5}}, []int{4, 1, 7, 5}},                 // the first place tells, not the last one
		{4, 5, [][2]int{{4, 2}, {2, 7}, {7, 5}, {2, 6}, {6, 5}, {4, 3}, {3, 0}, {0, 5}}, []int{4, 2, 6, 5}}, // nor one that is behind the place
		{4, 5, [][2]int{{4, 0}, {0, 1}, {1, 5}, {4, 7}, {7, 5}}, []int{4, 7, 5}},                            // fewer images tell ahead of a name
		{6, 3, [][2]int{{6, 0}, {0, 3}, {6, 1}, {1, 3}, {6, 3}}, []int{6, 3}},
		{6, 3, [][2]int{{6, 0}, {6, 1}, {1, 3}, {6, 2}, {2, 3}}, []int{6, 1, 3}}, // the first name of all leads nowhere
		{0, 1, [][2]int{{0, 2}, {2, 0}, {2, 2}, {2, 1}, {0, 3}, {3, 1}}, []int{0, 2, 1}},
	} {
		for range 2 {
			d, l := asked(t, images, c.places...)
			var want []api.Key
			for _, i := range c.want {
				want = append(want, l[i])
			}
			expectRoute(t, "names", d, ask(l[c.from], l[c.to]), want, n*(len(want)-1), api.OK)
			slices.Reverse(c.places)
		}
	}
}

// P27.10: the longest way that there is, over all images that a depot keeps, and its parts.
func TestLongestRoute(t *testing.T) {
	d, names := filled(t)
	r := rolls(9)
	var asks []api.Ask
	for i := range names[1:] {
		asks = append(asks, ask(names[i], names[i+1]))
	}
	var total [api.MaxHeld]int
	for i := range asks {
		total[i+1] = total[i] + size(few(i), few(i+1))
	}
	for _, i := range r.mixed(len(asks)) {
		expectRoute(t, "a piece is missing", d, ask(names[0], names[63]), nil, 0, api.ErrDepotRoute)
		d.Patch(asks[i])
	}
	for range 300 {
		i, j := r.below(64), r.below(64)
		if i <= j {
			expectRoute(t, "on", d, ask(names[i], names[j]), names[i:j+1], total[j]-total[i], api.OK)
		} else {
			expectRoute(t, "back", d, ask(names[i], names[j]), nil, 0, api.ErrDepotRoute)
		}
	}
	expectRoute(t, "all", d, ask(names[0], names[63]), names, total[63], api.OK)
}

// P27.10: a drawn web over as many images as there may be, against rows that grow image by image, of which the best to each image is kept.
func TestRoutesOfMany(t *testing.T) {
	r := rolls(10)
	for _, share := range []int{60, 30, 8} {
		d, names := filled(t)
		web := map[api.Ask]int{}
		var asks []api.Ask
		for i := range names {
			for j := range names {
				if r.below(share) == 0 {
					a := ask(names[i], names[j])
					web[a] = size(few(i), few(j))
					asks = append(asks, a)
				}
			}
		}
		if _, err := d.Serve(8, asks...); err != api.OK || d.Made() != len(asks) {
			t.Fatal(err)
		}
		for range 12 {
			from := names[r.below(64)]
			best := grown(web, names, from)
			for _, to := range names {
				if w := best[to]; w.names == nil {
					expectRoute(t, "many", d, ask(from, to), nil, 0, api.ErrDepotRoute)
				} else {
					expectRoute(t, "many", d, ask(from, to), w.names, w.bytes, api.OK)
				}
			}
		}
	}
}

// grown: the best row from one image to each other one.
func grown(web map[api.Ask]int, names []api.Key, from api.Key) map[api.Key]row {
	best := map[api.Key]row{from: {names: []api.Key{from}}}
	ends := map[api.Key]row{from: best[from]} // of rows of so many images each
	for range names {
		next := map[api.Key]row{}
		for a, n := range web {
			r, there := ends[a.From]
			if !there || slices.Contains(r.names, a.To) {
				continue
			}
			x := row{names: append(slices.Clone(r.names), a.To), bytes: r.bytes + n}
			if old, there := next[a.To]; !there || x.before(old) {
				next[a.To] = x
			}
		}
		for k, x := range next {
			if old, there := best[k]; !there || x.before(old) {
				best[k] = x
			}
		}
		ends = next
	}
	return best
}

// P27.10: Route by itself makes no patch, and keeps nothing.
func TestRouteKeepsNothing(t *testing.T) {
	d, l := stocked(t, "a", "b", "c")
	for range 3 {
		for _, from := range l {
			for _, to := range l {
				d.Route(ask(from, to))
			}
		}
		if d.Made() != 0 {
			t.Errorf("Made %d", d.Made())
		}
	}
}
