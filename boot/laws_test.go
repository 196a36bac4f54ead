package boot_test

import (
	"fmt"
	"slices"
	"testing"

	"sapper/api"
	"sapper/boot"
	"sapper/flash"
)

// setup: a flash that can be made more than once.
type setup struct {
	shape  api.Shape
	active int
	slots  [2][]byte
	pages  [2][]byte // nil: as New leaves it
	wears  [2]int    // Erases ahead of that
	limit  int
	cut    int
	torn   []byte
	dark   bool
}

// setup: a drawn one.
func (r *rolls) setup() setup {
	s := setup{shape: api.Shape{Page: r.of(64, 65, 100, 256, 64+r.below(300)), Pages: r.of(1, 1, 2, 3)}, active: r.below(2)}
	for i := range s.slots {
		s.slots[i] = r.data(r.below(s.shape.Page + 1))
	}
	seq := r.of(1, 2, 1+r.below(9), 1+r.below(1<<30)<<r.below(30), topSeq-1, topSeq)
	other := r.of(seq, seq+1, seq-1, 1, 1+r.below(9), topSeq)
	for page, n := range r.of2(seq, other) {
		s.pages[page] = r.front(n)
		s.wears[page] = r.below(3)
	}
	if r.below(3) == 0 {
		s.limit = 3
	}
	if r.below(3) == 0 {
		s.cut, s.torn = r.below(4), r.torn(modelEncode(r.record()), modelEncode(r.record()))
	}
	s.dark = r.below(20) == 0
	return s
}

// of2: two numbers in either order.
func (r *rolls) of2(a, b int) [2]int {
	if r.below(2) == 0 {
		return [2]int{b, a}
	}
	return [2]int{a, b}
}

// make: the flash.
func (s setup) make(t *testing.T) *flash.Flash {
	t.Helper()
	f, err := flash.New(s.shape, s.active, s.slots)
	ok(t, err)
	for page, b := range s.pages {
		for range s.wears[page] {
			ok(t, f.Erase(2, page))
		}
		if b != nil {
			put(t, f, page, b)
		}
	}
	ok(t, f.Limit(s.limit), f.Cut(s.cut, s.torn))
	if s.dark {
		off(t, f)
	}
	return f
}

// P25.2, P25.3, P25.11: Read, History and Write of drawn records, over flashes of drawn shapes with drawn pages, limits and cuts, against the chapter's words; and all that the flashes tell behind each.
func TestFlashesDrawn(t *testing.T) {
	r := rolls(11)
	count := map[string]int{}
	for range 20000 {
		s := r.setup()
		f, g := s.make(t), s.make(t)
		for range 4 {
			got, page, err := boot.Read(f)
			want, wantPage, wantErr := modelRead(g)
			if got != want || page != wantPage || err != wantErr {
				t.Fatalf("Read: %v, %d, %v, not %v, %d, %v", got, page, err, want, wantPage, wantErr)
			}
			count[fmt.Sprint("Read ", page, int(err))]++
			l, err := boot.History(f)
			wantL, wantErr := modelHistory(g)
			if !slices.Equal(l, wantL) || err != wantErr {
				t.Fatalf("History: %v, %v, not %v, %v", l, err, wantL, wantErr)
			}
			count[fmt.Sprint("History ", len(l), int(err))]++
			x := r.any()
			got, err = boot.Write(f, x)
			want, wantErr = modelWrite(g, x)
			expectRecord(t, "Write", got, err, want, wantErr)
			count[fmt.Sprint("Write ", int(err))]++
			if toldOf(f) != toldOf(g) {
				t.Fatalf("behind Write: %s, not %s", toldOf(f), toldOf(g))
			}
			if r.below(2) == 0 {
				f.Power()
				g.Power()
			}
		}
	}
	for _, kind := range []string{"Read 0 0", "Read 1 0", "Read 0 251", "Read 0 213", "History 0 0", "History 1 0", "History 2 0", "History 0 213", "Write 0", "Write 213", "Write 214", "Write 250"} {
		if count[kind] < 500 {
			t.Error(kind, count)
		}
	}
}

// move: a drawn Offer, Start or Confirm of a record; its kind, what it answers, and of an Offer its tries.
func (r *rolls) move(x api.Record) (kind string, out api.Record, run api.Image, tries int, err api.Errno) {
	switch r.below(6) {
	case 0, 1:
		next := r.next(x.Good)
		if r.below(3) == 0 {
			next = r.turned(api.Record{Next: next}).Next
		}
		next.Version -= r.of(0, 0, 1)
		tries = r.of(1, 2, 3, r.below(topTries+2))
		out, err = boot.Offer(x, next, tries)
		return "Offer", out, run, tries, err
	case 2:
		out, err = boot.Confirm(x)
		return "Confirm", out, run, 0, err
	}
	out, run, err = boot.Start(x)
	return "Start", out, run, 0, err
}

// P25.9: drawn rows of Offer, Start and Confirm: Good's Version never goes down, and Good changes by Confirm alone; from an Offer with n tries on Start answers Next at most n times ahead of a Confirm or another Offer.
func TestRowsOfMoves(t *testing.T) {
	r := rolls(12)
	count := map[string]int{}
	for range 5000 {
		x := api.Record{Seq: 1, Good: r.good()}
		x.Good.Version = r.of(1, 1, x.Good.Version)
		left := 0
		for range 40 {
			kind, y, run, tries, err := r.move(x)
			count[fmt.Sprint(kind, int(err))]++
			if err != api.OK {
				// A record that may be stays so: nothing but the call itself can be wrong.
				expectRecord(t, kind, y, err, api.Record{}, err)
				continue
			}
			if y.Good.Version < x.Good.Version || kind != "Confirm" && y.Good != x.Good || y.Seq != x.Seq || boot.Check(y) != api.OK {
				t.Fatalf("%s: from %v to %v", kind, x, y)
			}
			switch kind {
			case "Offer":
				left = tries
			case "Confirm":
				if y.Good != x.Next {
					t.Fatalf("Confirm: from %v to %v", x, y)
				}
				left = 0
			case "Start":
				if run != x.Good {
					left--
					count["next"]++
				}
				if run != x.Good && run != x.Next || left < 0 {
					t.Fatalf("Start: %v of %v, %d left", run, x, left)
				}
			}
			x = y
		}
	}
	for _, kind := range []string{"Offer0", "Offer1", "Offer250", "Offer252", "Confirm0", "Confirm253", "Start0", "next"} {
		if count[kind] < 500 {
			t.Error(kind, count)
		}
	}
}

// P25.9: from an Offer with n tries on Start answers Next just n times, if nothing else comes; then Good, and so on for good. The same behind an Offer over one of which some trials have gone.
func TestAsManyStarts(t *testing.T) {
	for tries := 1; tries <= topTries; tries++ {
		for ahead := range topTries + 2 {
			x, err := boot.Offer(plain(), image(1, 3, 4, 5), topTries)
			ok(t, err)
			for range ahead {
				x, _, err = boot.Start(x)
				ok(t, err)
			}
			next := image(1, 2, 6, 7)
			x, err = boot.Offer(x, next, tries)
			ok(t, err)
			for n := range tries + 5 {
				y, run, err := boot.Start(x)
				ok(t, err)
				if want := n < tries; (run == next) != want || (run == plain().Good) == want {
					t.Fatalf("%d tries: start %d of %v", tries, n, run)
				}
				x = y
			}
			expectRecord(t, "in the end", x, api.OK, plain(), api.OK)
		}
	}
}

// life: what was seen of a flash whose records are written by moves.
type life struct {
	flash *flash.Flash
	good  api.Image
	left  int // starts of Next that an Offer has left
}

// step: a drawn move of the record that Read tells, which is written, with a drawn cut that leaves no other record; its kind, and how it ended.
func (l *life) step(t *testing.T, r *rolls) (string, api.Errno) {
	t.Helper()
	x, page, err := boot.Read(l.flash)
	ok(t, err)
	kind, y, run, tries, err := r.move(x)
	if err != api.OK {
		return kind, err
	}
	being := y
	being.Seq = x.Seq + 1
	elder := pageOf(t, l.flash, 1-page)
	torn := modelEncode(being)[:r.of(0, r.below(44), 43)]
	if r.below(3) == 0 {
		torn = append(slices.Clone(torn), r.data(r.below(20))...)
	}
	ok(t, l.flash.Cut(r.below(4), torn))
	_, err = boot.Write(l.flash, y)
	l.flash.Power()
	ok(t, l.flash.Cut(0, nil))
	now, _, readErr := boot.Read(l.flash)
	ok(t, readErr)
	if now != x && now != being || err == api.OK && now != being {
		t.Fatalf("%s: Read tells %v, ahead of it %v, being written %v over % x", kind, now, x, being, elder)
	}
	if now.Good.Version < l.good.Version || now.Good != l.good && kind != "Confirm" {
		t.Fatalf("%s: Good was %v, and is %v", kind, l.good, now.Good)
	}
	l.good = now.Good
	switch {
	case kind == "Start" && err == api.OK && run != now.Good:
		// It runs, as soon as its record stands there.
		if l.left--; l.left < 0 || run != x.Next || x.Trial == 0 {
			t.Fatalf("Start: %v runs, %d left of %v", run, l.left, x)
		}
	case kind == "Offer" && now == being:
		l.left = tries
	case kind == "Confirm" && now == being:
		l.left = 0
	}
	return kind, err
}

// G10 as far as records go, P25.8, P25.9: rows of Offer, Start and Confirm, each written with a drawn cut: one record holds at all times, the version that is confirmed never goes down, Good changes by Confirm alone, and what is started behind a Write that went through is Good, or was offered with a trial left, no oftener than that.
func TestLives(t *testing.T) {
	r := rolls(13)
	count := map[string]int{}
	for range 3000 {
		f := mustFlash(t, r.of(64, 65, 100), 1)
		first, err := boot.First(image(r.below(2), 1, r.size(), r.sum()))
		ok(t, err)
		_, err = boot.Write(f, first)
		ok(t, err)
		l := life{flash: f, good: first.Good}
		for range 30 {
			kind, err := l.step(t, &r)
			count[fmt.Sprint(kind, int(err))]++
		}
	}
	for _, kind := range []string{"Offer0", "Offer213", "Confirm0", "Confirm213", "Start0", "Start213"} {
		if count[kind] < 2000 {
			t.Error(kind, count)
		}
	}
}

// P25.11: behind n Writes on a new flash the two last ones.
func TestHistoryOfWrites(t *testing.T) {
	r := rolls(14)
	f := mustFlash(t, 64, 1)
	var all []api.Record
	for n := range 200 {
		l, err := boot.History(f)
		if want := all[max(0, n-2):]; !slices.Equal(l, want) || err != api.OK {
			t.Fatalf("History: %v, %v, not %v", l, err, want)
		}
		x, err := boot.Write(f, r.record())
		ok(t, err)
		all = append(all, x)
	}
}
