package depot_test

import (
	"bytes"
	"fmt"
	"slices"
	"testing"

	"sapper/api"
	"sapper/depot"
	"sapper/maker"
)

// lived: a pair behind a row of drawn calls.
func lived(t *testing.T, r *rolls, calls int) *pair {
	t.Helper()
	p := newPair(t, r, counts{})
	for range 6 {
		p.add()
	}
	for range calls {
		p.step()
	}
	return p
}

// anew: a new depot with the images of another one, in the other order.
func anew(t *testing.T, o api.Options, d depoter) *depot.Depot {
	t.Helper()
	out := mustNew(t, o)
	l := d.Keys()
	slices.Reverse(l)
	for _, k := range l {
		b, err := d.Image(k)
		expect(t, "Image", err, api.OK)
		mustAdd(t, out, b)
	}
	return out
}

// asksOf: all asks for the images of a depot, and for some that it has not.
func asksOf(d depoter) []api.Ask {
	names := append(d.Keys(), keyOf([]byte("none")), keyOf([]byte("nor this")))
	var out []api.Ask
	for _, from := range names {
		for _, to := range names {
			out = append(out, ask(from, to))
		}
	}
	return out
}

// P27.7: behind drawn rows of calls, Patch, and Serve, answer what a new depot with the same images answers; and that is the maker's patch, from image to image.
func TestAsANewOne(t *testing.T) {
	r := rolls(40)
	many := 0
	for range 150 {
		p := lived(t, &r, 5+r.below(40))
		x := anew(t, p.m.o, p.d)
		asks := asksOf(p.d)
		l, err := x.Serve(5, asks...)
		expect(t, "Serve", err, api.OK)
		for i, a := range asks {
			expectPatch(t, "lived", p.d, a, l[i].Patch, l[i].Err)
			if l[i].Err != api.OK {
				continue
			}
			many++
			old, _ := p.d.Image(a.From)
			next, _ := p.d.Image(a.To)
			want, _ := maker.Generate(old, next, p.m.o)
			meant, err := maker.Meaning(l[i].Patch, old)
			if !bytes.Equal(want, l[i].Patch) || !bytes.Equal(meant, next) || err != api.OK {
				t.Fatalf("%x to %x: %x, %v", old, next, l[i].Patch, err)
			}
		}
		if toldOf(p.d) != toldOf(x) || routesOf(p.d) != routesOf(x) {
			t.Fatalf("%s, not %s", toldOf(p.d), toldOf(x))
		}
	}
	if many < 1000 {
		t.Errorf("%d patches", many)
	}
}

// P27.8: Made is how many unlike asks were answered OK whose images are both kept since: counted by their answers, behind each call.
func TestMadeIsCounted(t *testing.T) {
	r := rolls(41)
	c := counts{}
	for range 200 {
		p := newPair(t, &r, c)
		answered := map[api.Ask]bool{}
		for range 60 {
			switch r.below(8) {
			case 0, 1:
				p.d.Add(p.pool[r.below(len(p.pool))])
			case 2:
				k := keyOf(p.pool[r.below(len(p.pool))])
				if r.below(3) == 0 && p.d.Drop(k) == api.OK {
					for a := range answered {
						if a.From == k || a.To == k {
							delete(answered, a)
							c["gone"]++
						}
					}
				}
			case 3, 4:
				a := p.ask()
				if _, err := p.d.Patch(a); err == api.OK {
					answered[a] = true
				}
			case 5:
				asks := []api.Ask{p.ask(), p.ask(), p.ask()}
				l, _ := p.d.Serve(1+r.below(3), asks...)
				for i, x := range l {
					if x.Err == api.OK {
						answered[asks[i]] = true
					}
				}
			case 6:
				p.d.Route(p.ask())
			case 7:
				p.d.Image(p.key())
			}
			c[fmt.Sprint(len(answered))]++
			if p.d.Made() != len(answered) {
				t.Fatalf("Made %d, not %d", p.d.Made(), len(answered))
			}
		}
	}
	c.least(t, 100, "gone", "0", "1", "2", "3", "10")
}

// P27.9: all that was handed in and all that was answered is written over, at each call: the depot goes on as one of which nothing was.
func TestWrittenOver(t *testing.T) {
	o := usual()
	d, m := mustNew(t, o), &model{o: o}
	texts := [][]byte{bytes.Repeat([]byte("abc"), 30), bytes.Repeat([]byte("abcd"), 30), []byte("short"), {}}
	for _, text := range texts {
		given := slices.Clone(text)
		mustAdd(t, d, given)
		mustAdd(t, m, text)
		spoil(given, 'x')
	}
	for range 3 {
		keys := d.Keys()
		spoil(keys, api.Key{Size: 77})
		for _, text := range texts {
			b, err := d.Image(keyOf(text))
			if !bytes.Equal(b, text) || err != api.OK {
				t.Errorf("Image: %q, not %q", b, text)
			}
			spoil(b, 'y')
			for _, other := range texts {
				a := ask(keyOf(text), keyOf(other))
				want, _ := m.Patch(a)
				for range 2 {
					p, err := d.Patch(a)
					if !bytes.Equal(p, want) || err != api.OK {
						t.Errorf("Patch: %x, not %x", p, want)
					}
					spoil(p, 'z')
				}
			}
		}
		asks := asksOf(d)
		given := slices.Clone(asks)
		l, _ := d.Serve(3, given...)
		spoil(given, api.Ask{})
		want, _ := m.Serve(3, asks...)
		if !sameReplies(l, want) {
			t.Errorf("Serve: %v, not %v", l, want)
		}
		for _, x := range l {
			spoil(x.Patch, 'w')
		}
		spoil(l, api.Reply{Err: 7})
		for _, a := range asks {
			names, n, err := d.Route(a)
			wantNames, size, wantErr := m.Route(a)
			if !slices.Equal(names, wantNames) || n != size || err != wantErr {
				t.Errorf("Route: %v, %d, %v, not %v, %d, %v", names, n, err, wantNames, size, wantErr)
			}
			spoil(names, api.Key{Size: -1})
		}
		if toldOf(d) != toldOf(m) {
			t.Errorf("%s, not %s", toldOf(d), toldOf(m))
		}
	}
}

// P27.9, R3: no two lists of one answer share any, and no two answers: what is written into one, and behind its end, is not seen in another.
func TestNothingShared(t *testing.T) {
	d, l := stocked(t, "a", "b", "the third one")
	x := ask(l[0], l[2])
	replies, _ := d.Serve(2, x, x, ask(l[1], l[2]), x)
	again, _ := d.Serve(2, x)
	alone, _ := d.Patch(x)
	lists := [][]byte{replies[0].Patch, replies[1].Patch, replies[2].Patch, replies[3].Patch, again[0].Patch, alone}
	first, _ := d.Image(l[2])
	second, _ := d.Image(l[2])
	lists = append(lists, first, second)
	for i := range lists {
		var was [][]byte
		for _, b := range lists {
			was = append(was, slices.Clone(b))
		}
		spoil(lists[i], byte(100+i))
		for k, b := range lists {
			if k != i && !bytes.Equal(b, was[k]) {
				t.Errorf("%d is seen in %d", i, k)
			}
		}
	}
	one, other := d.Keys(), d.Keys()
	spoil(one, api.Key{})
	if !slices.Equal(other, d.Keys()) {
		t.Error("Keys share")
	}
	d.Patch(x)
	way, _, _ := d.Route(x)
	back, _, _ := d.Route(x)
	spoil(way, api.Key{})
	if !slices.Equal(back, []api.Key{l[0], l[2]}) {
		t.Error("routes share")
	}
}

// R3: what was answered stays as it is, whatever is done later.
func TestAnswersStay(t *testing.T) {
	r := rolls(42)
	for range 60 {
		p := lived(t, &r, 20)
		keys, asks := p.d.Keys(), asksOf(p.d)
		l, _ := p.d.Serve(2, asks...)
		var images [][]byte
		for _, k := range keys {
			b, _ := p.d.Image(k)
			images = append(images, b)
		}
		was := fmt.Sprint(keys, l, images)
		for _, k := range slices.Clone(keys) {
			p.d.Drop(k)
		}
		for range 5 {
			mustAdd(t, p.d, r.data(r.below(100)))
		}
		p.d.Serve(3, asksOf(p.d)...)
		if fmt.Sprint(keys, l, images) != was {
			t.Error("an answer has changed")
		}
	}
}

// R4: the same calls in whatever order the images came, with whatever workers, and again and again: the same answers.
func TestAgain(t *testing.T) {
	r := rolls(43)
	for range 40 {
		o, pool := usual(), r.images()
		var want string
		for range 4 {
			d := mustNew(t, o)
			for _, i := range r.mixed(len(pool)) {
				if !bytes.Equal(pool[i], pool[0]) && keyOf(pool[i]) == keyOf(pool[0]) {
					continue // a twin: which of them is kept hangs on the order
				}
				mustAdd(t, d, pool[i])
			}
			asks := asksOf(d)
			l, _ := d.Serve(1+r.below(16), asks[:len(asks)/2]...)
			text := fmt.Sprint(l) + toldOf(d) + routesOf(d)
			if want == "" {
				want = text
			}
			if text != want {
				t.Fatalf("%s, not %s", text, want)
			}
		}
	}
}
