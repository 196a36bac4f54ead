package depot_test

import (
	"fmt"
	"slices"
	"sync"
	"sync/atomic"
	"testing"

	"sapper/api"
	"sapper/depot"
)

// atOnce: so many goroutines that all begin at one time; it waits for them.
func atOnce(n int, do func(i int)) {
	var ready, done sync.WaitGroup
	ready.Add(1)
	for i := range n {
		done.Go(func() {
			ready.Wait()
			do(i)
		})
	}
	ready.Done()
	done.Wait()
}

// call is one that a goroutine makes: what it is, its answer, and between which ticks it was made.
type call struct {
	name       string
	do         func(d depoter) string
	answer     string
	begin, end int64
}

// told: what a call answers, as a text.
func told(l ...any) string { return fmt.Sprintf("%x", l) }

// call: one of few images, so that they meet often.
func (r *rolls) call(pool [][]byte) *call {
	name := func() api.Key { return keyOf(pool[r.below(len(pool))]) }
	k, a := name(), ask(name(), name())
	image := pool[r.below(len(pool))]
	asks := []api.Ask{a, ask(name(), name()), a, ask(k, k), ask(name(), k)}[r.below(3) : 3+r.below(3)]
	workers := 1 + r.below(3)
	l := []*call{
		{name: "Add", do: func(d depoter) string { k, err := d.Add(image); return told(k, err) }},
		{name: "Drop", do: func(d depoter) string { return told(d.Drop(k)) }},
		{name: "Image", do: func(d depoter) string { b, err := d.Image(k); return told(b, err) }},
		{name: "Keys", do: func(d depoter) string { return told(d.Keys()) }},
		{name: "Made", do: func(d depoter) string { return told(d.Made()) }},
		{name: "Route", do: func(d depoter) string { l, n, err := d.Route(a); return told(l, n, err) }},
		{name: "Patch", do: func(d depoter) string { b, err := d.Patch(a); return told(b, err) }},
		{name: "Serve", do: func(d depoter) string { l, err := d.Serve(workers, asks...); return told(l, err) }},
	}
	return l[r.of(0, 0, 1, 1, 2, 3, 4, 4, 5, 6, 6, 7, 7)]
}

// inRow: is there a moment for each call, between its beginning and its end, so that one behind the other, by the chapter's words, they answer what they answered? failed: what was tried and led nowhere.
func inRow(m model, rows [][]*call, failed map[string]bool) bool {
	least, left := int64(1)<<62, 0
	for _, l := range rows {
		if len(l) > 0 {
			least = min(least, l[0].end)
			left += len(l)
		}
	}
	if left == 0 {
		return true
	}
	state := toldOf(&m)
	for _, l := range rows {
		state += fmt.Sprint(" ", len(l))
	}
	if failed[state] {
		return false
	}
	for i, l := range rows {
		if len(l) == 0 || l[0].begin > least {
			continue // it began behind the end of one that was not made yet
		}
		next := m
		if l[0].do(&next) != l[0].answer {
			continue
		}
		rest := slices.Clone(rows)
		rest[i] = l[1:]
		if inRow(next, rest, failed) {
			return true
		}
	}
	failed[state] = true
	return false
}

// playAtOnce: each row of calls by a goroutine of its own.
func playAtOnce(d *depot.Depot, rows [][]*call) {
	var tick atomic.Int64
	atOnce(len(rows), func(i int) {
		for _, c := range rows[i] {
			c.begin = tick.Add(1)
			c.answer = c.do(d)
			c.end = tick.Add(1)
		}
	})
}

// P27.6: drawn calls of several goroutines over one depot: each is done at one moment between its beginning and its end.
func TestDrawnAtOnce(t *testing.T) {
	r := rolls(30)
	for range 250 {
		var pool [][]byte
		for range 3 {
			pool = append(pool, r.data(50+r.below(200)))
		}
		pool = append(pool, twin(pool[0], 8, 1))
		d, m := mustNew(t, usual()), model{o: usual()}
		for _, image := range pool[:3] {
			d.Add(image)
			m.Add(image)
		}
		rows := make([][]*call, 2+r.below(3))
		for i := range rows {
			for range 2 + r.below(4) {
				rows[i] = append(rows[i], r.call(pool))
			}
		}
		playAtOnce(d, rows)
		if !inRow(m, rows, map[string]bool{}) {
			for i, l := range rows {
				for _, x := range l {
					t.Logf("%d: %s from %d to %d: %.60s", i, x.name, x.begin, x.end, x.answer)
				}
			}
			t.Fatal("no row of these calls answers so")
		}
	}
}

// P27.6: Serve, too, is done at one moment: an image that goes meanwhile is there for all of its asks, or for none.
func TestServeAndDropAtOnce(t *testing.T) {
	r := rolls(31)
	var there, gone int
	for round := range 60 {
		l := [][]byte{r.data(300), r.data(300), r.data(300)}
		d := mustNew(t, usual())
		a, b, c := mustAdd(t, d, l[0]), mustAdd(t, d, l[1]), mustAdd(t, d, l[2])
		asks := []api.Ask{ask(a, b), ask(b, c), ask(c, b), ask(b, a), ask(b, b), ask(a, c), ask(a, b)}
		var replies []api.Reply
		atOnce(2, func(i int) {
			if i == 0 {
				replies, _ = d.Serve(1+round%3, asks...)
				return
			}
			for round%4 > 0 && d.Made() == 0 { // three times of four it has begun
			}
			d.Drop(b)
		})
		want := model{o: usual(), images: keptAll(l)}
		if replies[0].Err != api.OK {
			want.Drop(b)
			gone++
		} else {
			there++
		}
		all, _ := want.Serve(1, asks...)
		if !sameReplies(replies, all) {
			t.Fatalf("%v", replies)
		}
		want.Drop(b)
		if toldOf(d) != toldOf(&want) || routesOf(d) != routesOf(&want) {
			t.Fatalf("%s, not %s", toldOf(d), toldOf(&want))
		}
	}
	if there < 20 {
		t.Errorf("%d times there, %d times gone", there, gone)
	}
}

// P27.6: one that looks on sees none of the patches of a Serve, or all.
func TestMadeAtOnce(t *testing.T) {
	r := rolls(32)
	for round := range 20 {
		l := [][]byte{r.data(300), r.data(300), r.data(300)}
		d := mustNew(t, usual())
		var asks []api.Ask
		for _, from := range l {
			for _, to := range l {
				asks = append(asks, ask(mustAdd(t, d, from), mustAdd(t, d, to)))
			}
		}
		var over atomic.Bool
		var seen []int
		atOnce(2, func(i int) {
			if i == 0 {
				d.Serve(1+round%4, asks...)
				over.Store(true)
				return
			}
			for !over.Load() {
				seen = append(seen, d.Made())
			}
		})
		seen = slices.Compact(append(seen, d.Made()))
		if !slices.Equal(seen, []int{0, 9}) && !slices.Equal(seen, []int{9}) {
			t.Errorf("%v", seen)
		}
	}
}

// P27.6: a patch is asked for while its images go and come again, by others with the same names at times: what it answers is of images that were there, and what is kept at the end is of those that are.
func TestPatchAndDropAtOnce(t *testing.T) {
	r := rolls(33)
	old, first := r.data(300), r.data(300)
	images := [][]byte{first, twin(first, 100, 4)}
	want := []string{told(generate(old, images[0], usual()), api.OK), told(generate(old, images[1], usual()), api.OK), told([]byte(nil), api.ErrDepotImage)}
	d := mustNew(t, usual())
	a, b := mustAdd(t, d, old), mustAdd(t, d, first)
	seen := [6]map[string]int{}
	atOnce(6, func(i int) {
		seen[i] = map[string]int{}
		for k := range 60 {
			if i < 4 {
				p, err := d.Patch(ask(a, b))
				seen[i][told(p, err)]++
			} else {
				d.Drop(b)
				d.Add(images[(i+k)%2])
			}
		}
	})
	for _, m := range seen[:4] {
		for text := range m {
			if !slices.Contains(want, text) {
				t.Errorf("%.80s", text)
			}
		}
	}
	now, err := d.Image(b)
	expect(t, "Image", err, api.OK)
	for range 2 {
		expectPatch(t, "at the end", d, ask(a, b), generate(old, now, usual()), api.OK)
		if d.Made() != 1 {
			t.Errorf("Made %d", d.Made())
		}
	}
}

// P27.3, P27.6: goroutines that add more images than are kept: just as many are, those whose Add said so.
func TestAddAtOnce(t *testing.T) {
	d := mustNew(t, usual())
	var answers [8][40]api.Errno
	atOnce(8, func(i int) {
		for k := range 40 {
			_, answers[i][k] = d.Add(few(k*4 + i/2)) // each one by two of them
		}
	})
	kept := map[api.Key]bool{}
	for i := range answers {
		for k, err := range answers[i] {
			if err == api.OK {
				kept[keyOf(few(k*4+i/2))] = true
			} else {
				expect(t, "Add", err, api.ErrDepotMany)
			}
		}
	}
	if l := d.Keys(); len(kept) != api.MaxHeld || len(l) != api.MaxHeld || slices.ContainsFunc(l, func(k api.Key) bool { return !kept[k] }) {
		t.Errorf("%d were kept, %d are", len(kept), len(l))
	}
}

// P27.3, P27.6: goroutines that add unlike images with one name: one of them is kept, and the others are refused.
func TestClashAtOnce(t *testing.T) {
	for range 2000 {
		d := mustNew(t, usual())
		var images [8][]byte
		var answers [8]api.Errno
		for i := range images {
			images[i] = twin(digits(30), 8, i)
		}
		atOnce(8, func(i int) { _, answers[i] = d.Add(images[i]) })
		b, err := d.Image(keyOf(digits(30)))
		expect(t, "Image", err, api.OK)
		for i, err := range answers {
			if (err == api.OK) != (string(b) == string(images[i])) || err != api.OK && err != api.ErrDepotClash {
				t.Errorf("%v", answers)
			}
		}
	}
}

// P27.5, P27.6: several Serves over one depot at one time, each with many workers, of asks that they share: the same replies as one by one.
func TestServesAtOnce(t *testing.T) {
	r := rolls(34)
	var l [][]byte
	for range 5 {
		l = append(l, r.data(r.below(300)))
	}
	m := &model{o: usual(), images: keptAll(l)}
	d := mustNew(t, usual())
	var asks, own [6][]api.Ask
	for _, b := range l {
		mustAdd(t, d, b)
	}
	for i := range asks {
		for range 20 {
			asks[i] = append(asks[i], ask(keyOf(l[r.below(5)]), keyOf(l[r.below(5)])), ask(keyOf(l[0]), keyOf(few(r.below(5)))))
		}
		own[i] = slices.Clone(asks[i])
	}
	var replies [6][]api.Reply
	atOnce(6, func(i int) { replies[i], _ = d.Serve(1+3*i, own[i]...) })
	for i := range replies {
		want, _ := m.Serve(1, asks[i]...)
		if !sameReplies(replies[i], want) {
			t.Errorf("%d: %v, not %v", i, replies[i], want)
		}
	}
	if toldOf(d) != toldOf(m) || routesOf(d) != routesOf(m) {
		t.Errorf("%s, not %s", toldOf(d), toldOf(m))
	}
}

// P27.6, P27.10: routes are asked for while patches are made: each is one over patches that are kept, and has their bytes.
func TestRouteAtOnce(t *testing.T) {
	r := rolls(35)
	var l [][]byte
	var names []api.Key
	d := mustNew(t, usual())
	for range 5 {
		l = append(l, r.data(200))
		names = append(names, mustAdd(t, d, l[len(l)-1]))
	}
	web := map[api.Ask]int{}
	for i, from := range names {
		for j, to := range names {
			web[ask(from, to)] = len(generate(l[i], l[j], usual()))
		}
	}
	wrong := make([]string, 6)
	atOnce(6, func(i int) {
		for k := range 25 {
			a := ask(names[k%5], names[(k+1+i%4)%5])
			if i < 3 {
				d.Patch(a)
			} else if way, n, err := d.Route(a); err == api.OK {
				for k := range way[1:] {
					n -= web[ask(way[k], way[k+1])]
				}
				if n != 0 || way[0] != a.From || way[len(way)-1] != a.To {
					wrong[i] = fmt.Sprint(way, n)
				}
			} else if err != api.ErrDepotRoute {
				wrong[i] = err.Error()
			}
		}
	})
	for _, text := range wrong {
		if text != "" {
			t.Error(text)
		}
	}
}
