package purse_test

import (
	"fmt"
	"slices"
	"testing"

	"sapper/api"
)

// P23.1, P23.2, P23.4: drawn rows of calls: each answer, and all that is told behind it, against the chapter's words; Held is at most Peak, Peak at most Most.
func TestRowsOfCalls(t *testing.T) {
	r := rolls(2)
	count := map[string]int{}
	for range 1500 {
		p, m := mustNew(t), &model{}
		for range 5 + r.below(60) {
			kind, answer := r.step(t, p, m)
			count[fmt.Sprint(kind, " ", int(answer))]++
			expectSame(t, p, m)
			if p.Held() > p.Peak() || p.Peak() > p.Most() {
				t.Fatalf("Held %d, Peak %d, Most %d", p.Held(), p.Peak(), p.Most())
			}
			if t.Failed() {
				t.FailNow()
			}
		}
	}
	for _, kind := range []string{"Open", "Hold"} {
		for _, err := range []api.Errno{api.OK, api.ErrArg, api.ErrPurseName} {
			if n := count[fmt.Sprint(kind, " ", int(err))]; n < 1000 {
				t.Errorf("%s: %v just %d times", kind, err, n)
			}
		}
	}
}

// P23.1: drawn rows of calls with a purse that is nearly full, and full.
func TestRowsOfFull(t *testing.T) {
	r := rolls(3)
	full := 0
	for range 10 {
		p, m := mustNew(t), &model{}
		for _, name := range r.mixed(numbered(1024))[:1015+r.below(10)] {
			most := r.below(100)
			ok(t, p.Open(name, most), m.Open(name, most))
		}
		for i := range 100 {
			r.step(t, p, m)
			if i%10 == 9 {
				expectSame(t, p, m)
			}
		}
		if len(m.holders) == 1024 {
			full++
		}
	}
	if full < 5 {
		t.Errorf("just %d were full", full)
	}
}

// row: drawn Holds of names with their mosts.
func (r *rolls) row(names []string, most map[string]int) (out []modelHolder) {
	for range 10 + r.below(60) {
		name := names[r.below(len(names))]
		out = append(out, modelHolder{name: name, held: r.amount(most[name])})
	}
	return out
}

// P23.4: the same holders opened in two orders, and then the same Holds: each answers and tells the same.
func TestOrderOfOpening(t *testing.T) {
	r := rolls(4)
	for range 300 {
		names, most := numbered(1+r.below(40)), map[string]int{}
		for _, name := range names {
			most[name] = r.of(0, 1, 10, top, r.below(1000))
		}
		p, q := mustNew(t), mustNew(t)
		for _, name := range r.mixed(names) {
			ok(t, p.Open(name, most[name]))
		}
		for _, name := range r.mixed(names) {
			ok(t, q.Open(name, most[name]))
		}
		expectSame(t, p, q)
		for _, h := range r.row(names, most) {
			expect(t, h.name, p.Hold(h.name, h.held), q.Hold(h.name, h.held))
			expectSame(t, p, q)
		}
	}
}

// P23.4: holders that are all opened at first, and such as are opened when they are wanted: the end is the same.
func TestOpenedLate(t *testing.T) {
	r := rolls(5)
	for range 300 {
		names, most := numbered(1+r.below(40)), map[string]int{}
		for _, name := range names {
			most[name] = r.of(0, 1, 10, top, r.below(1000))
		}
		p, q := mustNew(t), mustNew(t)
		for _, name := range names {
			ok(t, p.Open(name, most[name]))
		}
		open := map[string]int{}
		for _, h := range r.row(names, most) {
			if open[h.name]++; open[h.name] == 1 {
				ok(t, q.Open(h.name, most[h.name]))
			}
			expect(t, h.name, p.Hold(h.name, h.held), q.Hold(h.name, h.held))
			if p.Held() != q.Held() || p.Peak() != q.Peak() {
				t.Fatalf("%d, %d, and %d, %d", p.Held(), p.Peak(), q.Held(), q.Peak())
			}
		}
		for _, name := range r.mixed(names) {
			if open[name] == 0 {
				ok(t, q.Open(name, most[name]))
			}
		}
		expectSame(t, p, q)
	}
}

// R4: the same row of calls twice: the same answers, whatever order a map has.
func TestTwice(t *testing.T) {
	for i := range 50 {
		r, again := rolls(100+i), rolls(100+i)
		p, q := mustNew(t), mustNew(t)
		m, n := &model{}, &model{}
		for range 60 {
			r.step(t, p, m)
			again.step(t, q, n)
			expectSame(t, p, q)
		}
	}
}

// R4: purses beside each other have no part in each other, nor in how they take turns.
func TestSideBySide(t *testing.T) {
	r := rolls(6)
	for range 60 {
		var l [4]purser
		var m [4]*model
		for i := range l {
			l[i], m[i] = mustNew(t), &model{}
		}
		for range 150 {
			i := r.below(4)
			r.step(t, l[i], m[i])
			for k := range l {
				expectSame(t, l[k], m[k])
			}
		}
	}
}

// R4: of two purses one is full: the other one takes the same names.
func TestBesideFull(t *testing.T) {
	p, names := mustNew(t), numbered(1025)
	q := mustNew(t)
	for _, name := range names[:1024] {
		ok(t, p.Open(name, 1))
	}
	expect(t, "the 1025th", p.Open(names[1024], 1), api.ErrArg)
	ok(t, q.Open(names[1024], 2), q.Open(names[0], 3), q.Hold(names[0], 3))
	expect(t, "not there", q.Hold(names[1], 0), api.ErrPurseName)
	expectTold(t, q, 3, 3, 5, names[0], names[1024])
	expectTold(t, p, 0, 0, 1024, names[:1024]...)
	if slices.Contains(p.Names(), names[1024]) {
		t.Error("a name of the other one")
	}
}
