package depot_test

import (
	"bytes"
	"fmt"
	"runtime"
	"slices"
	"sync"
	"sync/atomic"
	"testing"
	"time"

	"sapper/api"
	"sapper/maker"
)

// cost: how many bytes of memory something takes, all in all; making a patch takes much, handing one out little.
func cost(do func()) uint64 {
	var ahead, behind runtime.MemStats
	runtime.ReadMemStats(&ahead)
	do()
	runtime.ReadMemStats(&behind)
	return behind.TotalAlloc - ahead.TotalAlloc
}

// heavy: images whose patches take long to be made, and much memory.
func heavy(r *rolls, n int) [][]byte {
	var out [][]byte
	for range n {
		out = append(out, r.data(3000))
	}
	return out
}

// costOf: what the making of a patch takes.
func costOf(old, next []byte) uint64 {
	return cost(func() { maker.Generate(old, next, usual()) })
}

// P27.4: the chapter's example 2.
func TestPatch(t *testing.T) {
	d, l := stocked(t, "a", "b")
	a, b := l[0], l[1]
	want, err := maker.Generate([]byte("a"), []byte("b"), usual())
	expect(t, "Generate", err, api.OK)
	for range 3 {
		expectPatch(t, "a to b", d, ask(a, b), want, api.OK)
		expectKept(t, "a to b", d, 1, b, a)
	}
	expect(t, "Drop", d.Drop(b), api.OK)
	expectKept(t, "b is gone", d, 0, a)
	expectPatch(t, "b is gone", d, ask(a, b), nil, api.ErrDepotImage)
	expectKept(t, "b is gone", d, 0, a)
}

// P27.4: From or To not kept, both, and names that nearly are; nothing is kept of such an ask.
func TestPatchOfNone(t *testing.T) {
	d, l := stocked(t, "a", "b")
	a, b := l[0], l[1]
	other := a
	other.Ends[15] ^= 1
	gone := mustAdd(t, d, []byte("gone"))
	expect(t, "Drop", d.Drop(gone), api.OK)
	for _, k := range []api.Key{{}, other, gone, {Size: -1}, keyOf([]byte("c"))} {
		for _, x := range []api.Ask{ask(a, k), ask(k, a), ask(k, k), ask(b, k), ask(k, b)} {
			expectPatch(t, "not kept", d, x, nil, api.ErrDepotImage)
			expectServed(t, "not kept", d, 2, []api.Ask{x}, []api.Reply{{Err: api.ErrDepotImage}}, api.OK)
			expectRoute(t, "not kept", d, x, nil, 0, api.ErrDepotImage)
		}
	}
	expectKept(t, "not kept", d, 0, b, a)
}

// P27.4: From and To the same; each direction by itself; the empty image.
func TestPatchesApart(t *testing.T) {
	d, l := stocked(t, "a", "b", "")
	a, b, none := l[0], l[1], l[2]
	texts := map[api.Key]string{a: "a", b: "b", none: ""}
	n := 0
	for from, old := range texts {
		for to, next := range texts {
			n++
			expectPatch(t, old+" to "+next, d, ask(from, to), generate([]byte(old), []byte(next), usual()), api.OK)
			expectKept(t, old+" to "+next, d, n, none, b, a)
		}
	}
	expect(t, "Drop", d.Drop(none), api.OK)
	expectKept(t, "none is gone", d, 4, b, a)
	expectPatch(t, "a to itself", d, ask(a, a), generate([]byte("a"), []byte("a"), usual()), api.OK)
	expectKept(t, "a to itself", d, 4, b, a)
}

// P27.4: behind a Drop and an Add of another image with the same name: another patch.
func TestPatchOfTwin(t *testing.T) {
	first := digits(60)
	other := twin(first, 30, 2)
	d, l := stocked(t, "a", string(first))
	there, back := ask(l[0], l[1]), ask(l[1], l[0])
	for _, image := range [][]byte{first, other, first} {
		expect(t, "Drop", d.Drop(l[1]), api.OK)
		expectKept(t, "one", d, 0, l[0])
		expectPatch(t, "gone", d, there, nil, api.ErrDepotImage)
		mustAdd(t, d, image)
		for n := range 2 {
			expectKept(t, "anew", d, 2*n, l[0], l[1])
			expectPatch(t, "anew", d, there, generate([]byte("a"), image, usual()), api.OK)
			expectPatch(t, "anew", d, back, generate(image, []byte("a"), usual()), api.OK)
		}
	}
	if bytes.Equal(generate([]byte("a"), first, usual()), generate([]byte("a"), other, usual())) {
		t.Error("the same patch")
	}
}

// P27.4: a patch is kept: asked once more, it is not made anew, also behind other asks, adds and drops.
func TestMadeOnce(t *testing.T) {
	r := rolls(3)
	l := heavy(&r, 3)
	one := costOf(l[0], l[1])
	d := mustNew(t, usual())
	a, b, c := mustAdd(t, d, l[0]), mustAdd(t, d, l[1]), mustAdd(t, d, l[2])
	if n := cost(func() { d.Patch(ask(a, b)) }); n < one/2 || n > 2*one {
		t.Errorf("the first one took %d bytes of memory, and the maker %d", n, one)
	}
	d.Patch(ask(b, a))
	want := generate(l[0], l[1], usual())
	if n := cost(func() {
		for range 10 {
			expectPatch(t, "again", d, ask(a, b), want, api.OK)
			expectServed(t, "again", d, 4, []api.Ask{ask(a, b)}, []api.Reply{{Patch: want}}, api.OK)
			expectRoute(t, "again", d, ask(a, b), []api.Key{a, b}, len(want), api.OK)
			expect(t, "Drop", d.Drop(c), api.OK)
			mustAdd(t, d, l[2])
			mustAdd(t, d, l[0])
			d.Made()
			d.Keys()
		}
	}); n > one {
		t.Errorf("ten times again took %d bytes of memory, and one making %d", n, one)
	}
	if d.Made() != 2 {
		t.Errorf("Made %d", d.Made())
	}
}

// P27.5: the chapter's example 3, with as many workers as there may be, and fewer.
func TestServe(t *testing.T) {
	for _, workers := range []int{1, 2, 3, 4, 15, api.MaxWorkers} {
		d, l := stocked(t, "a", "b")
		a, b := l[0], l[1]
		there, back := generate([]byte("a"), []byte("b"), usual()), generate([]byte("b"), []byte("a"), usual())
		expectServed(t, "three", d, workers, []api.Ask{ask(a, b), ask(b, a), ask(a, b)}, []api.Reply{{Patch: there}, {Patch: back}, {Patch: there}}, api.OK)
		expectKept(t, "three", d, 2, b, a)
		expectServed(t, "again", d, workers, []api.Ask{ask(b, a), ask(a, b)}, []api.Reply{{Patch: back}, {Patch: there}}, api.OK)
		expectPatch(t, "again", d, ask(b, a), back, api.OK)
		expectKept(t, "again", d, 2, b, a)
	}
}

// P27.5: workers that may not be, whatever is asked: nothing is done.
func TestWorkers(t *testing.T) {
	d, l := stocked(t, "a", "b")
	a, b := l[0], l[1]
	for _, workers := range []int{0, -1, api.MaxWorkers + 1, 1 << 40, -1 << 63, 1<<63 - 1} {
		for _, asks := range [][]api.Ask{nil, {}, {ask(a, b)}, {ask(a, api.Key{})}, {ask(b, a), ask(a, b)}} {
			expectServed(t, "workers", d, workers, asks, nil, api.ErrArg)
			expectKept(t, "workers", d, 0, b, a)
		}
	}
}

// P27.5: no asks; asks of images that are not kept among others; the same ask many times; more asks than workers, and fewer.
func TestServeMany(t *testing.T) {
	texts := []string{"a", "b", "c", "d", ""}
	for _, workers := range []int{1, 2, 5, api.MaxWorkers} {
		d, l := stocked(t, texts...)
		for _, asks := range [][]api.Ask{nil, {}} {
			expectServed(t, "no asks", d, workers, asks, nil, api.OK)
		}
		if d.Made() != 0 {
			t.Errorf("Made %d", d.Made())
		}
		var asks []api.Ask
		var want []api.Reply
		for i := range 200 {
			from, to := i%5, i%7%5
			asks = append(asks, ask(l[from], l[to]))
			want = append(want, api.Reply{Patch: generate([]byte(texts[from]), []byte(texts[to]), usual())})
			if i%3 == 1 {
				asks = append(asks, ask(l[from], keyOf([]byte("none"))), ask(keyOf(few(i)), l[to]))
				want = append(want, api.Reply{Err: api.ErrDepotImage}, api.Reply{Err: api.ErrDepotImage})
			}
		}
		expectServed(t, "one", d, workers, asks[:1], want[:1], api.OK)
		expectServed(t, "many", d, workers, asks, want, api.OK)
		if d.Made() != 25 {
			t.Errorf("Made %d", d.Made())
		}
		same := slices.Repeat(asks[:1], 300)
		expectServed(t, "the same", d, workers, same, slices.Repeat(want[:1], 300), api.OK)
		if d.Made() != 25 {
			t.Errorf("Made %d", d.Made())
		}
	}
}

// P27.5: all numbers of workers over the same asks, anew each time and one behind the other: the same replies, and as many patches kept.
func TestAllWorkers(t *testing.T) {
	r := rolls(4)
	texts := make([]string, 7)
	for i := range texts {
		texts[i] = string(r.data(r.below(200)))
	}
	once, names := stocked(t, texts...)
	names = append(names, keyOf([]byte("none")))
	for _, n := range []int{1, 2, 16, 17, 40} {
		var asks []api.Ask
		for range n {
			asks = append(asks, ask(names[r.below(len(names))], names[r.below(len(names))]))
		}
		m := &model{o: usual(), images: keptTexts(texts)}
		want, _ := m.Serve(1, asks...)
		for workers := 1; workers <= api.MaxWorkers; workers++ {
			d, _ := stocked(t, texts...)
			expectServed(t, "anew", d, workers, asks, want, api.OK)
			if toldOf(d) != toldOf(m) || routesOf(d) != routesOf(m) {
				t.Errorf("%d workers, %d asks: %s, not %s", workers, n, toldOf(d), toldOf(m))
			}
			expectServed(t, "again", once, workers, asks, want, api.OK)
		}
	}
}

// keptTexts: these images, kept.
func keptTexts(texts []string) []held {
	var out [][]byte
	for _, s := range texts {
		out = append(out, []byte(s))
	}
	return keptAll(out)
}

// P27.5: in one Serve the same ask is made once, however many workers there are.
func TestServedOnce(t *testing.T) {
	r := rolls(5)
	l := heavy(&r, 2)
	one := costOf(l[0], l[1])
	for _, workers := range []int{1, 2, 8, api.MaxWorkers} {
		d := mustNew(t, usual())
		a, b := mustAdd(t, d, l[0]), mustAdd(t, d, l[1])
		asks := slices.Repeat([]api.Ask{ask(a, b)}, 40)
		var replies []api.Reply
		n := cost(func() { replies, _ = d.Serve(workers, asks...) })
		held := uint64(0)
		for _, x := range replies {
			held += uint64(len(x.Patch))
		}
		if held == 0 || n-held > 2*one {
			t.Errorf("%d workers took %d bytes of memory, and one making %d", workers, n-held, one)
		}
	}
}

// P27.4, P27.6: several goroutines that ask for the same patch at one time: it is made once.
func TestPatchedOnce(t *testing.T) {
	r := rolls(6)
	l := heavy(&r, 2)
	one := costOf(l[0], l[1])
	d := mustNew(t, usual())
	a, b := mustAdd(t, d, l[0]), mustAdd(t, d, l[1])
	if n := cost(func() { atOnce(12, func(int) { d.Patch(ask(a, b)) }) }); n > 3*one {
		t.Errorf("twelve took %d bytes of memory, and one making %d", n, one)
	}
}

// settled: how many goroutines there are; one that has ended may be counted a moment longer.
func settled() int {
	n := runtime.NumGoroutine()
	for range 20 {
		time.Sleep(time.Millisecond)
		n = min(n, runtime.NumGoroutine())
	}
	return n
}

// counted: how many goroutines there are beside one's own while something is done, told over and over; rising.
func counted(do func()) []int {
	var begun, done sync.WaitGroup
	var over atomic.Bool
	var out []int
	begun.Add(1)
	done.Go(func() {
		begun.Done()
		for !over.Load() {
			out = append(out, runtime.NumGoroutine()-1)
			time.Sleep(50 * time.Microsecond)
		}
	})
	begun.Wait()
	do()
	over.Store(true)
	done.Wait()
	slices.Sort(out)
	return out
}

// atWork: what is wrong with how many goroutines are at work in a Serve of all asks between these images; none: nothing.
func atWork(t *testing.T, workers int, images [][]byte) string {
	t.Helper()
	d := mustNew(t, usual())
	var names []api.Key
	var asks []api.Ask
	for _, b := range images {
		names = append(names, mustAdd(t, d, b))
	}
	for _, from := range names {
		for _, to := range names {
			asks = append(asks, ask(from, to))
		}
	}
	ahead := settled()
	l := counted(func() { d.Serve(workers, asks...) })
	behind := settled()
	if most := l[len(l)-1]; most != ahead+workers || l[len(l)/2] == ahead || behind != ahead {
		return fmt.Sprintf("%d workers: %d goroutines ahead, %d behind, %d at most and %d half of the time", workers, ahead, behind, most, l[len(l)/2])
	}
	return ""
}

// P27.5, R4: so many goroutines as there are workers are at work, and all have ended when the call answers. The language's own may come between: then it is counted once more.
func TestGoroutines(t *testing.T) {
	r := rolls(7)
	images := heavy(&r, 6)
	for _, workers := range []int{1, 2, 5, api.MaxWorkers} {
		var wrong string
		for try := 0; try == 0 || try < 4 && wrong != ""; try++ {
			wrong = atWork(t, workers, images)
		}
		if wrong != "" {
			t.Error(wrong)
		}
	}
}
