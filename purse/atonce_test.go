package purse_test

import (
	"slices"
	"sync"
	"testing"

	"sapper/api"
	"sapper/purse"
)

// atOnce: so many goroutines that all begin at one time; it waits for them.
func atOnce(n int, do func(i int)) {
	var ready, done sync.WaitGroup
	ready.Add(1)
	for i := range n {
		done.Add(1)
		go func() {
			defer done.Done()
			ready.Wait()
			do(i)
		}()
	}
	ready.Done()
	done.Wait()
}

// P23.1: goroutines that open more holders in all than there may be: 1024 of them are there, and the others were refused.
func TestOpenAtOnce(t *testing.T) {
	p, names := mustNew(t), numbered(1600)
	var answers [1600]api.Errno
	atOnce(16, func(i int) {
		for k := i; k < 1600; k += 16 {
			answers[k] = p.Open(names[k], k)
		}
	})
	var there []string
	most := 0
	for k, err := range answers {
		if err == api.OK {
			there = append(there, names[k])
			most += k
		} else {
			expect(t, names[k], err, api.ErrArg)
		}
	}
	if len(there) != 1024 {
		t.Errorf("%d holders", len(there))
	}
	expectTold(t, p, 0, 0, most, there...)
}

// P23.1: goroutines that open the same names: each name is opened once.
func TestSameNameAtOnce(t *testing.T) {
	p, names := mustNew(t), numbered(300)
	var answers [8][300]api.Errno
	atOnce(8, func(i int) {
		for k, name := range names {
			answers[i][k] = p.Open(name, 1+i)
		}
	})
	most := 0
	for k, name := range names {
		once := 0
		for i := range answers {
			if answers[i][k] == api.OK {
				once++
				most += 1 + i
			} else {
				expect(t, name, answers[i][k], api.ErrPurseName)
			}
		}
		if once != 1 {
			t.Errorf("%s was opened %d times", name, once)
		}
	}
	expectTold(t, p, 0, 0, most, names...)
}

// watch: what one goroutine sees of a purse while others go on with it: each thing is right by itself, and Peak and Most never go down.
func watch(p *purse.Purse, rounds int) string {
	peak, most, names := 0, 0, 0
	for range rounds {
		held := p.Held()
		was := peak
		if peak = p.Peak(); peak < was || peak < held {
			return "a peak that is too low"
		}
		had := most
		if most = p.Most(); most < had || most < peak {
			return "a most that is too low"
		}
		l := p.Names()
		if !slices.IsSorted(l) || len(slices.Compact(slices.Clone(l))) != len(l) || len(l) < names {
			return "names out of order"
		}
		names = len(l)
	}
	return ""
}

// P23.2, P23.4: goroutines that open their own holders and hold by them: all come to their tops, and then go down. Others look on. What all hold at the tops is the peak.
func TestHoldAtOnce(t *testing.T) {
	const workers, rounds = 8, 300
	p, names := mustNew(t), numbered(workers)
	var atTop sync.WaitGroup
	atTop.Add(workers)
	var wrong [workers + 2]string
	atOnce(workers+2, func(i int) {
		if i >= workers {
			wrong[i] = watch(p, rounds)
			return
		}
		if p.Open(names[i], rounds+i) != api.OK {
			wrong[i] = "Open"
		}
		for n := range rounds + 1 {
			if p.Hold(names[i], n+i) != api.OK || p.Hold(names[i], rounds+i+1) != api.ErrArg {
				wrong[i] = "up"
			}
		}
		atTop.Done()
		atTop.Wait()
		for n := range rounds {
			if p.Hold(names[i], rounds-n) != api.OK || p.Hold("none", n) != api.ErrPurseName {
				wrong[i] = "down"
			}
		}
	})
	for i, text := range wrong {
		if text != "" {
			t.Errorf("%d: %s", i, text)
		}
	}
	all := workers*rounds + workers*(workers-1)/2
	expectTold(t, p, workers, all, all, names...)
}

// P23.2: goroutines that hold by one and the same holder: the peak is the greatest of all numbers, and what is held one of the last ones.
func TestOneHolderAtOnce(t *testing.T) {
	p := mustNew(t)
	ok(t, p.Open("a", 1_000_000))
	var greatest, last [8]int
	atOnce(8, func(i int) {
		r := rolls(200 + i)
		for range 500 {
			n := r.below(1_000_000)
			if p.Hold("a", n) == api.OK {
				greatest[i], last[i] = max(greatest[i], n), n
			}
		}
	})
	if !slices.Contains(last[:], p.Held()) {
		t.Errorf("Held %d, none of %v", p.Held(), last)
	}
	expectTold(t, p, p.Held(), slices.Max(greatest[:]), 1_000_000, "a")
}

// R4: drawn rows of calls at one time, each with a purse of its own, against the chapter's words; and Bound between them.
func TestOwnPursesAtOnce(t *testing.T) {
	var l [8]*purse.Purse
	var m [8]*model
	bound := purse.Bound(64, 64, 1)
	atOnce(8, func(i int) {
		r := rolls(300 + i)
		l[i], m[i] = purse.New(), &model{}
		for range 200 {
			name, most := r.name(), r.most()
			if l[i].Open(name, most) != m[i].Open(name, most) || purse.Bound(64, 64, 1) != bound {
				t.Error("Open, or Bound")
			}
			name, n := r.anyName(m[i]), r.below(20)
			if l[i].Hold(name, n) != m[i].Hold(name, n) {
				t.Error("Hold")
			}
		}
	})
	for i := range l {
		expectSame(t, l[i], m[i])
	}
}
