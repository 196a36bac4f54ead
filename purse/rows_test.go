package purse_test

import (
	"math"
	"slices"
	"strconv"
	"testing"

	"sapper/api"
	"sapper/purse"
)

// top: the most that a holder may be opened with.
const top = 1 << 40

// mustNew: a purse that there must be.
func mustNew(t *testing.T) *purse.Purse {
	t.Helper()
	p := purse.New()
	if p == nil {
		t.Fatal("New: none")
	}
	return p
}

// opened: a purse with these holders, each of which may hold 10 bytes.
func opened(t *testing.T, names ...string) *purse.Purse {
	t.Helper()
	p := mustNew(t)
	for _, name := range names {
		ok(t, p.Open(name, 10))
	}
	return p
}

// ok: calls that must answer OK.
func ok(t *testing.T, l ...api.Errno) {
	t.Helper()
	for i, err := range l {
		if err != api.OK {
			t.Fatalf("call %d: %v", i, err)
		}
	}
}

// expect: an error.
func expect(t *testing.T, name string, err, want api.Errno) {
	t.Helper()
	if err != want {
		t.Errorf("%s: %v, not %v", name, err, want)
	}
}

// expectTold: what Held, Peak, Most and Names tell.
func expectTold(t *testing.T, p purser, held, peak, most int, names ...string) {
	t.Helper()
	if p.Held() != held || p.Peak() != peak || p.Most() != most {
		t.Errorf("Held %d, Peak %d, Most %d, not %d, %d, %d", p.Held(), p.Peak(), p.Most(), held, peak, most)
	}
	if got := p.Names(); !slices.Equal(got, names) {
		t.Errorf("Names %q, not %q", got, names)
	}
}

// expectSame: all that two tell.
func expectSame(t *testing.T, p, want purser) {
	t.Helper()
	expectTold(t, p, want.Held(), want.Peak(), want.Most(), want.Names()...)
}

// numbered: names of numbers below n, all of one length, rising.
func numbered(n int) []string {
	out := make([]string, n)
	for i := range out {
		out[i] = "h" + strconv.Itoa(10000+i)
	}
	return out
}

// rolls: numbers that follow no pattern and are the same at each run.
type rolls uint64

// below: a number from 0 on, below n.
func (r *rolls) below(n int) int {
	*r = *r*6364136223846793005 + 1442695040888963407
	return int(uint64(*r>>20) % uint64(n))
}

// of: one of these.
func (r *rolls) of(l ...int) int { return l[r.below(len(l))] }

// mixed: a list in another order.
func (r *rolls) mixed(l []string) []string {
	out := slices.Clone(l)
	for i := range out {
		k := i + r.below(len(out)-i)
		out[i], out[k] = out[k], out[i]
	}
	return out
}

// name: of a few bytes, many of them no letters, so that the same ones come again and some begin others.
func (r *rolls) name() string {
	out := make([]byte, r.of(0, 1, 1, 1, 2, 2, 3))
	for i := range out {
		out[i] = byte(r.of(0, 1, 'a', 'b', 0x7f, 0x80, 0xc3, 0xff))
	}
	return string(out)
}

// most: for an Open, at the ends often, and seldom beyond them.
func (r *rolls) most() int {
	if r.below(8) == 0 {
		return r.of(-1, -2, math.MinInt, top+1, top+2, math.MaxInt, 1<<62)
	}
	return r.of(0, 1, 2, 10, 100, 1000, top-1, top, r.below(50), r.below(5000), r.below(top+1))
}

// amount: for a Hold by one that may hold most, at the ends often, and seldom beyond them.
func (r *rolls) amount(most int) int {
	if r.below(6) == 0 {
		return r.of(-1, -2, math.MinInt, most+1, most+2, math.MaxInt, top+1)
	}
	return r.of(0, 0, most, most, max(0, most-1), most/2, r.below(most+1), r.below(most+1), r.below(most+1))
}

// anyName: one of a model's holders, or a drawn name.
func (r *rolls) anyName(m *model) string {
	if len(m.holders) > 0 && r.below(5) > 0 {
		return m.holders[r.below(len(m.holders))].name
	}
	return r.name()
}

// step: a drawn Open or Hold of both, which must answer the same; its kind and its answer.
func (r *rolls) step(t *testing.T, p purser, m *model) (string, api.Errno) {
	t.Helper()
	if r.below(3) == 0 {
		name, most := r.name(), r.most()
		got, want := p.Open(name, most), m.Open(name, most)
		if got != want {
			t.Fatalf("Open(%q, %d): %v, not %v", name, most, got, want)
		}
		return "Open", got
	}
	name, most := r.anyName(m), r.below(100)
	if at := m.where(name); at >= 0 {
		most = m.holders[at].most
	}
	n := r.amount(most)
	got, want := p.Hold(name, n), m.Hold(name, n)
	if got != want {
		t.Fatalf("Hold(%q, %d): %v, not %v", name, n, got, want)
	}
	return "Hold", got
}
