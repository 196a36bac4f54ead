package depot_test

import (
	"bytes"
	"fmt"
	"slices"
	"testing"

	"sapper/api"
	"sapper/depot"
)

// rolls: numbers that follow no pattern and are the same at each run.
type rolls uint64

// below: a number from 0 on, below n.
func (r *rolls) below(n int) int {
	*r = *r*6364136223846793005 + 1442695040888963407
	return int(uint64(*r>>33) % uint64(n))
}

// of: one of these.
func (r *rolls) of(l ...int) int { return l[r.below(len(l))] }

// data: n bytes.
func (r *rolls) data(n int) []byte {
	out := make([]byte, n)
	for i := range out {
		out[i] = byte(r.below(256))
	}
	return out
}

// mixed: the numbers below n in another order.
func (r *rolls) mixed(n int) []int {
	out := make([]int, n)
	for i := range out {
		k := r.below(i + 1)
		out[i], out[k] = out[k], i
	}
	return out
}

// options: such as may be.
func (r *rolls) options() api.Options {
	look := api.Look{Window: r.of(1, 100, 32768), Chain: r.of(0, 10, 10), Lazy: r.below(2) == 0}
	return api.Options{Window: r.of(64, 64, 100, 1000, 65536), Press: api.Press{Look: look, Block: r.of(1, 100, 65536)}}
}

// images: such as are alike in one way or the other.
func (r *rolls) images() [][]byte {
	first := r.data(r.of(60, 60, 60, 61, 100))
	switch r.below(4) {
	case 0: // between any two of them the patches have the same number of bytes
		return [][]byte{few(1), few(2), few(3), few(4), few(5), few(6)}
	case 1, 2: // stages of one image, two of each
		return [][]byte{first, stage(first, "p", 1), stage(first, "q", 1), stage(first, "pq", 2), stage(first, "rs", 2), stage(first, "tuv", 3)}
	}
	out := [][]byte{first, twin(first, 8+r.below(len(first)-20), r.below(8)), stage(first, "", 1), stage(first, "pq", 2), {}}
	for range 3 {
		out = append(out, r.data(r.below(3)))
	}
	return append(out, r.data(r.below(300)))
}

// counts: how often each thing came about.
type counts map[string]int

// least: each of these came about so often, at the least.
func (c counts) least(t *testing.T, n int, names ...string) {
	t.Helper()
	for _, name := range names {
		if c[name] < n {
			t.Errorf("%s: %d times", name, c[name])
		}
	}
}

// pair is a depot, and one by the chapter's words, to which the same is done.
type pair struct {
	t    *testing.T
	r    *rolls
	pool [][]byte // the images that come
	d    *depot.Depot
	m    *model
	c    counts
	did  []string
}

// newPair: both without images.
func newPair(t *testing.T, r *rolls, c counts) *pair {
	t.Helper()
	o := usual()
	if r.below(3) == 0 {
		o = r.options()
	}
	return &pair{t: t, r: r, pool: r.images(), d: mustNew(t, o), m: &model{o: o}, c: c}
}

// key: the name of one of the images; seldom a bent one.
func (p *pair) key() api.Key {
	k := keyOf(p.pool[p.r.below(len(p.pool))])
	if len(p.m.images) > 0 && p.r.below(6) > 0 {
		k = p.m.images[p.r.below(len(p.m.images))].name
	}
	switch p.r.below(60) {
	case 0:
		k.Size += p.r.of(-1, 1)
	case 1:
		k.Sum ^= 1 << p.r.below(32)
	case 2:
		k.Ends[p.r.below(16)] ^= 1 << p.r.below(8)
	}
	return k
}

// ask: one for two such names.
func (p *pair) ask() api.Ask { return ask(p.key(), p.key()) }

// held: a call was made of both; its answers, as texts, must be the same, and what both keep.
func (p *pair) held(name string, got, want any, err, wantErr api.Errno) {
	p.t.Helper()
	p.did = append(p.did, fmt.Sprint(name, " ", int(wantErr)))
	p.c[p.did[len(p.did)-1]]++
	if fmt.Sprint(got) != fmt.Sprint(want) || err != wantErr {
		p.t.Fatalf("%v: %v, %v, not %v, %v", p.did, got, err, want, wantErr)
	}
	if !slices.Equal(p.d.Keys(), p.m.Keys()) || p.d.Made() != p.m.Made() {
		p.t.Fatalf("%v: %s, not %s", p.did, toldOf(p.d), toldOf(p.m))
	}
}

func (p *pair) add() {
	image := p.pool[p.r.below(len(p.pool))]
	given, same := lent(image)
	k, err := p.d.Add(given)
	if !same() {
		p.t.Fatal("what was handed in has changed")
	}
	spoil(given, 7)
	want, wantErr := p.m.Add(image)
	p.held("Add", k, want, err, wantErr)
}

func (p *pair) drop() {
	k := p.key()
	p.held("Drop", 0, 0, p.d.Drop(k), p.m.Drop(k))
}

func (p *pair) patch() {
	a := p.ask()
	b, err := p.d.Patch(a)
	want, wantErr := p.m.Patch(a)
	p.held("Patch", b, want, err, wantErr)
	spoil(b, 8)
}

func (p *pair) image() {
	k := p.key()
	b, err := p.d.Image(k)
	want, wantErr := p.m.Image(k)
	p.held("Image", b, want, err, wantErr)
	spoil(b, 9)
}

func (p *pair) serve() {
	workers := p.r.of(1, 1, 2, 3, 16, p.r.below(18), 0, 17, -1)
	var asks []api.Ask
	for range p.r.below(8) {
		asks = append(asks, p.ask())
		if p.r.below(3) == 0 {
			asks = append(asks, asks[p.r.below(len(asks))])
		}
	}
	given := append(slices.Clone(asks), ask(api.Key{}, api.Key{}))[:len(asks)]
	l, err := p.d.Serve(workers, given...)
	if !slices.Equal(given, asks) || given[:len(asks)+1][len(asks)] != (api.Ask{}) {
		p.t.Fatal("what was handed in has changed")
	}
	spoil(given, ask(api.Key{Size: 1}, api.Key{}))
	want, wantErr := p.m.Serve(workers, asks...)
	if !sameReplies(l, want) {
		p.t.Fatalf("%v: Serve: %v, not %v", p.did, l, want)
	}
	p.held("Serve", len(l), len(want), err, wantErr)
	for _, x := range l {
		spoil(x.Patch, 10)
	}
	spoil(l, api.Reply{Err: 1})
}

// route: and of what kind the best way is, among all that there are.
func (p *pair) route() {
	a := p.ask()
	l, n, err := p.d.Route(a)
	want, size, wantErr := p.m.Route(a)
	p.held("Route", fmt.Sprint(l, n), fmt.Sprint(want, size), err, wantErr)
	spoil(l, api.Key{})
	p.tell(a, want, size)
}

// tell: what other ways there were beside the one that was picked.
func (p *pair) tell(a api.Ask, want []api.Key, size int) {
	rows, _ := p.m.routes(a)
	for _, x := range rows {
		switch {
		case slices.Equal(x.names, want):
		case x.bytes == size && len(x.names) == len(want):
			p.c["a way as good but for a name"]++
		case x.bytes == size:
			p.c["a way of as many bytes and more images"]++
		case len(x.names) < len(want):
			p.c["a way of fewer images and more bytes"]++
		}
	}
	if len(want) > 3 {
		p.c["a way of three patches"]++
	}
}

// step: a drawn call.
func (p *pair) step() {
	switch p.r.below(20) {
	case 0, 1:
		p.add()
	case 2:
		if p.r.below(3) == 0 {
			p.drop()
		}
	case 3, 4, 5, 6:
		p.patch()
	case 7:
		p.image()
	case 8, 9, 10, 11:
		p.serve()
	default:
		p.route()
	}
}

// P27.3 to P27.5, P27.10, P27.9: rows of drawn calls: each answer, which is written over, and behind each call what is kept, against the chapter's words.
func TestRowsOfCalls(t *testing.T) {
	r := rolls(20)
	c := counts{}
	for i := range 600 {
		p := newPair(t, &r, c)
		for range 8 {
			p.add()
		}
		if i%8 == 0 { // nearly full
			for k := range api.MaxHeld - r.below(6) {
				p.d.Add(few(1000 + k))
				p.m.Add(few(1000 + k))
			}
		}
		for range 40 {
			p.step()
		}
		if toldOf(p.d) != toldOf(p.m) || i%8 > 0 && routesOf(p.d) != routesOf(p.m) {
			t.Fatalf("%v: %s, not %s", p.did, toldOf(p.d), toldOf(p.m))
		}
	}
	for name, l := range map[string][]int{"Add": {0, 271, 272}, "Drop": {0, 270}, "Image": {0, 270}, "Patch": {0, 270}, "Serve": {0, 1}, "Route": {0, 270, 273}} {
		for _, err := range l {
			c.least(t, 20, fmt.Sprint(name, " ", err))
		}
	}
}

// P27.10: all routes of drawn webs, against all rows that there are.
func TestRoutesDrawn(t *testing.T) {
	r := rolls(22)
	c := counts{}
	for range 400 {
		p := newPair(t, &r, c)
		var asks []api.Ask
		for _, image := range p.pool[:6] {
			p.d.Add(image)
			p.m.Add(image)
		}
		share := r.of(1, 2, 3, 3, 5)
		for _, from := range p.m.images {
			for _, to := range p.m.images {
				if r.below(share) == 0 {
					asks = append(asks, ask(from.name, to.name))
				}
			}
		}
		p.d.Serve(4, asks...)
		p.m.Serve(4, asks...)
		for _, from := range p.m.images {
			for _, to := range p.m.images {
				a := ask(from.name, to.name)
				l, n, err := p.d.Route(a)
				want, size, wantErr := p.m.Route(a)
				p.held("Route", fmt.Sprint(l, n), fmt.Sprint(want, size), err, wantErr)
				p.tell(a, want, size)
			}
		}
	}
	c.least(t, 100, "a way as good but for a name", "a way of fewer images and more bytes", "a way of three patches")
	c.least(t, 20, "a way of as many bytes and more images")
}

// P27.2: New with drawn options, many of which may not be, against what a maker does with these.
func TestNewDrawn(t *testing.T) {
	r := rolls(21)
	c := counts{}
	images := [][]byte{bytes.Repeat([]byte("abc"), 50), bytes.Repeat([]byte("abcd"), 40)}
	for range 500 {
		o := r.options()
		switch r.below(8) {
		case 0:
			o.Window = r.of(-1, 0, 63, 65537)
		case 1:
			o.Press.Look.Window = r.of(-1, 0, 32769)
		case 2:
			o.Press.Look.Chain = r.of(-1, 4097)
		case 3:
			o.Press.Block = r.of(-1, 0, 65537)
		}
		d, err := depot.New(o)
		want := generate(images[0], images[1], o)
		c[fmt.Sprint(int(err))]++
		if (err == api.OK) != (len(want) > 0) || (d != nil) != (err == api.OK) {
			t.Fatalf("New(%v): %v", o, err)
		}
		if d != nil {
			a, b := mustAdd(t, d, images[0]), mustAdd(t, d, images[1])
			expectPatch(t, "drawn", d, ask(a, b), want, api.OK)
		}
	}
	c.least(t, 100, "0", "200")
}
