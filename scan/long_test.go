package scan_test

import (
	"bytes"
	"slices"
	"testing"
	"time"

	"sapper/api"
	"sapper/scan"
)

// limit: a way that goes over a long match anew at each of its bytes would take far longer of some of these.
const limit = 30 * time.Second

// quick: the call ends within the limit.
func quick(t *testing.T, name string, call func()) {
	t.Helper()
	begin := time.Now()
	call()
	if took := time.Since(begin); took > limit {
		t.Errorf("%s took %v", name, took)
	}
}

// holdLong: the steps of long images against those by the chapter's words.
func holdLong(t *testing.T, name string, old, next []byte) {
	t.Helper()
	x := index(t, old)
	var l []api.Step
	quick(t, name, func() { l = steps(t, x, next) })
	if want := stepsOf(old, next, fast(x, old, next)); !slices.Equal(l, want) {
		t.Fatalf("%s: %d steps, not %d", name, len(l), len(want))
	}
	holdSums(t, name, old, next, l)
}

// P15.4, P15.5: of long images of a rule, and what may follow upon them.
func TestLong(t *testing.T) {
	for _, s := range shapes(1 << 14) {
		for _, o := range afters(s.data) {
			holdLong(t, s.name+", "+o.name, s.data, o.data)
		}
	}
}

// near: an image in which a long part stands twice, the second time with one byte changed, near its end; and one with both of them whole: all the way up to that byte there is a match that is longer by a byte than what stands at hand.
func near(part []byte) ([]byte, []byte) {
	n := len(part)
	other := slices.Clone(part)
	other[n-3]++
	return slices.Concat(part, []byte("xyz"), other), slices.Concat(part, []byte("uvw"), part)
}

// P15.4, R1: matches that each begin just a byte behind the last one, and are as long.
func TestLongMatchesInARow(t *testing.T) {
	const n = 1 << 18
	for _, s := range shapes(n / 2) {
		old, next := near(s.data)
		holdLong(t, "twice, "+s.name, old, next)
	}
	old := make([]byte, n)
	old[n/2], old[n-3] = 1, 1
	holdLong(t, "alike, but for two", old, make([]byte, n))
	period := bytes.Repeat([]byte("abcdefg"), n/7)
	next := slices.Clone(period)
	period[n/2]++
	period[n-20]++
	holdLong(t, "a period", period, next)
}

// P15.4: likewise, and parts that are moved behind it.
func TestStepsBehindMatchesInARow(t *testing.T) {
	r := rolls(7)
	for _, s := range shapes(150) {
		for range 5 {
			old, next := near(s.data)
			old = slices.Concat(old, r.data(100, 256))
			next = slices.Concat(next, r.edited(old, 5, 50, 256))
			want := stepsOf(old, next, literal(old, next, func(string) {}))
			if l := steps(t, index(t, old), next); !slices.Equal(l, want) {
				t.Fatalf("%s: from %q to %q: %v, not %v", s.name, old, next, l, want)
			}
		}
	}
}

// mixed: an image of bytes that follow no pattern and of others behind them; and one of short parts of both by turns.
func mixed(others []byte, parts int) ([]byte, []byte) {
	r := rolls(len(others))
	first := r.data(len(others), 256)
	var next []byte
	for range parts {
		for _, d := range [][]byte{first, others} {
			n := 9 + r.below(40)
			from := r.below(len(d) - n)
			next = append(next, d[from:from+n]...)
		}
	}
	return slices.Concat(first, others), next
}

// P15.4, R1: steps to texts that stand at very many places, all of which may lie far behind; the least one is told.
func TestManyPlaces(t *testing.T) {
	for _, s := range shapes(1<<14 + 5) {
		old, next := mixed(s.data, 200)
		holdLong(t, "mixed, "+s.name, old, next)
	}
	old, next := mixed(bytes.Repeat([]byte{255}, 1<<20), 1<<16)
	x := index(t, old)
	quick(t, "very many places", func() { holdSums(t, "very many places", old, next, steps(t, x, next)) })
}

// P15.1 to P15.3: of as many bytes as an image may have.
func TestPaysOfMany(t *testing.T) {
	const n = api.MaxImage
	old, next := make([]byte, 2*n), make([]byte, n)
	quick(t, "Forward, Backward, Split", func() {
		if f := scan.Forward(old, 0, next, 0, n); f != n {
			t.Error("Forward:", f)
		}
		if b := scan.Backward(old, 2*n, next, 0, n); b != n {
			t.Error("Backward:", b)
		}
		old[2*n-1] = 1
		if k := scan.Split(old, 0, n, next, 0, n); k != n {
			t.Error("Split:", k)
		}
	})
}

// P15.4 to P15.6: just as many bytes as an image may have, in both.
func TestJustMaxImage(t *testing.T) {
	const n, run = api.MaxImage, api.MaxImage / 256
	d := counted(n, func(i int) int { return i / run })
	x := index(t, d)
	quick(t, "itself", func() {
		if l := steps(t, x, d); !slices.Equal(l, []api.Step{{Add: n}}) {
			t.Error("to itself:", l)
		}
	})
	quick(t, "moved", func() {
		want := []api.Step{{Add: 0, Seek: n / 2}, {Add: n / 2, Seek: -n}, {Add: n / 2}}
		if l := steps(t, x, slices.Concat(d[n/2:], d[:n/2])); !slices.Equal(l, want) {
			t.Error("moved:", l)
		}
	})
	quick(t, "other bytes", func() {
		other := counted(n, func(i int) int { return 255 - i/run })
		holdSums(t, "other bytes", d, other, steps(t, x, other))
	})
}
