package lens_test

import (
	"math"
	"slices"
	"testing"

	"sapper/api"
	"sapper/lens"
)

// rolls: numbers that follow no pattern and are the same at each run.
type rolls uint64

func (r *rolls) step() uint64 {
	*r = *r*6364136223846793005 + 1442695040888963407
	return uint64(*r >> 32)
}

// below: a number from 0 on, below n.
func (r *rolls) below(n int) int {
	high := r.step()
	return int((high<<32 | r.step()) % uint64(n))
}

// counts: so many counts below top.
func (r *rolls) counts(n, top int) []int {
	out := make([]int, n)
	for i := range out {
		out[i] = r.below(top)
	}
	return out
}

// same: so many counts of one size.
func same(n, f int) []int {
	return slices.Repeat([]int{f}, n)
}

// doubled: 1 1 2 4 8 .., whose cheapest code is as deep as a code can be.
func doubled(n int) []int {
	out := []int{1}
	for f := 1; len(out) < n; f *= 2 {
		out = append(out, f)
	}
	return out[:n]
}

// grown: 1 1 2 3 5 8 .., where sums and counts lie close together.
func grown(n int) []int {
	out := []int{1, 1}
	for len(out) < n {
		out = append(out, out[len(out)-1]+out[len(out)-2])
	}
	return out[:n]
}

// inUse: how many counts are not 0.
func inUse(freq []int) int {
	n := 0
	for _, f := range freq {
		if f != 0 {
			n++
		}
	}
	return n
}

// bits: the least limit that n symbols fit.
func bits(n int) int {
	for limit := 1; ; limit++ {
		if n <= 1<<limit {
			return limit
		}
	}
}

// heavy: a weight with all the symbols that it holds, one by one.
type heavy struct {
	weight  int
	symbols []int
}

// byHand: package-merge of P4.1 with its rows written out: a stable sort by weights of the leaves with the packages behind them, each of which lists its symbols.
func byHand(limit int, freq []int) []int {
	out := make([]int, len(freq))
	var leaves []heavy
	for s, f := range freq {
		if f != 0 {
			leaves = append(leaves, heavy{f, []int{s}})
		}
	}
	rise := func(a, b heavy) int {
		switch {
		case a.weight < b.weight:
			return -1
		case a.weight > b.weight:
			return 1
		}
		return 0
	}
	slices.SortStableFunc(leaves, rise)
	if len(leaves) == 1 {
		out[leaves[0].symbols[0]] = 1
	}
	if len(leaves) < 2 {
		return out
	}
	row := slices.Clone(leaves)
	for k := 2; k <= limit; k++ {
		next := slices.Clone(leaves)
		for i := 0; i < len(row)/2; i++ {
			a, b := row[2*i], row[2*i+1]
			next = append(next, heavy{a.weight + b.weight, slices.Concat(a.symbols, b.symbols)})
		}
		slices.SortStableFunc(next, rise)
		row = next
	}
	for i := 0; i < 2*len(leaves)-2; i++ {
		for _, s := range row[i].symbols {
			out[s]++
		}
	}
	return out
}

// cheapest: the least cost of any lengths from 1 to limit whose sum of 1 / 2^length is at most 1. A tree is gone down level by level: symbols with greater counts get their leaves first, and each level costs one bit for every symbol that has none yet.
func cheapest(limit int, freq []int) int {
	var used []int
	for _, f := range freq {
		if f != 0 {
			used = append(used, f)
		}
	}
	slices.Sort(used)
	slices.Reverse(used)
	n := len(used)
	left := make([]int, n+1) // the counts of all from there on
	for i := n - 1; i >= 0; i-- {
		left[i] = left[i+1] + used[i]
	}
	if n == 0 {
		return 0
	}
	const never = math.MaxInt / 2
	below := make([][]int, n+1) // by how many have leaves, and how many nodes stand open at the level below
	for done := range below {
		below[done] = same(n+1, never)
	}
	clear(below[n])
	for level := limit; level >= 0; level-- {
		here := make([][]int, n+1)
		here[n] = make([]int, n+1)
		for done := n - 1; done >= 0; done-- {
			here[done] = same(n+1, never)
			for open := 1; open <= n; open++ {
				best := never
				if level > 0 {
					best = here[done+1][open-1]
				}
				if level < limit {
					best = min(best, left[done]+below[done][min(2*open, n)])
				}
				here[done][open] = best
			}
		}
		below = here
	}
	return below[0][1]
}

// huffman: the two least give way to their sum, in a list that is sorted each time.
func huffman(freq []int) int {
	var used []int
	for _, f := range freq {
		if f != 0 {
			used = append(used, f)
		}
	}
	if len(used) == 1 {
		return used[0]
	}
	total := 0
	for len(used) > 1 {
		slices.Sort(used)
		sum := used[0] + used[1]
		total += sum
		used = append([]int{sum}, used[2:]...)
	}
	return total
}

// lists: every list of up to n counts below top.
func lists(n, top int, visit func([]int)) {
	var grow func([]int)
	grow = func(head []int) {
		visit(head)
		if len(head) == n {
			return
		}
		for f := range top {
			grow(append(head[:len(head):len(head)], f))
		}
	}
	grow(nil)
}

// sorts: counts of many kinds, from a few to MaxSymbols.
func sorts() [][]int {
	r := rolls(4)
	out := [][]int{
		nil, {0}, {7}, {0, 7}, {7, 0, 0}, {5, 5}, {0, 5, 0, 6}, {1, api.MaxFreq}, {api.MaxFreq},
		same(4, 1), same(5, 1), same(32, 3), same(api.MaxSymbols, 1), same(api.MaxSymbols, api.MaxFreq), same(api.MaxSymbols, 0),
		doubled(5), doubled(16), doubled(17), doubled(41), grown(16), grown(17), grown(40),
		{1, 1, 2, 2}, {2, 2, 1, 1}, {1, 2, 1, 2}, {1, 1, 2, 3, 4, 5, 6}, {4, 2, 1, 1, 2, 4}, {1, 2, 3, 3, 6, 6},
	}
	for _, n := range []int{3, 6, 9, 17, 30, 64, 143, 287, api.MaxSymbols} {
		for _, top := range []int{2, 3, 5, 100, 1 << 20, api.MaxFreq + 1} {
			out = append(out, r.counts(n, top))
		}
	}
	for range 60 {
		out = append(out, r.counts(1+r.below(24), 1+r.below(40)))
	}
	full := append(doubled(41), same(api.MaxSymbols-41, api.MaxFreq)...)
	return append(out, full)
}

// lengths: what Lengths answers, which must be well.
func lengths(t *testing.T, limit int, freq []int) []int {
	t.Helper()
	got, err := lens.Lengths(limit, freq...)
	if err != api.OK {
		t.Fatalf("Lengths(%d, %v): error %d", limit, freq, int(err))
	}
	return got
}

// cost: what Cost answers, which must be well.
func cost(t *testing.T, freq, l []int) int {
	t.Helper()
	got, err := lens.Cost(freq, l)
	if err != api.OK {
		t.Fatalf("Cost(%v, %v): error %d", freq, l, int(err))
	}
	return got
}

// least: what Least answers, which must be well.
func least(t *testing.T, freq []int) int {
	t.Helper()
	got, err := lens.Least(freq...)
	if err != api.OK {
		t.Fatalf("Least(%v): error %d", freq, int(err))
	}
	return got
}

// eachCode: Lengths of all sorts of counts, by every limit that they bear, and of every short list of small counts.
func eachCode(t *testing.T, check func(limit int, freq, l []int)) {
	t.Helper()
	for _, freq := range sorts() {
		for limit := bits(inUse(freq)); limit <= api.MaxLen; limit++ {
			check(limit, freq, lengths(t, limit, freq))
		}
	}
	lists(5, 5, func(freq []int) {
		for limit := bits(inUse(freq)); limit <= 5; limit++ {
			check(limit, freq, lengths(t, limit, freq))
		}
	})
}

// P4.1, by the chapter's examples, the edges, and lengths reckoned on paper.
func TestLengthsKnown(t *testing.T) {
	for _, c := range []struct {
		limit      int
		freq, want []int
	}{
		{15, nil, nil},
		{1, nil, nil},
		{15, []int{0}, []int{0}},
		{15, []int{0, 0}, []int{0, 0}},
		{15, []int{0, 7}, []int{0, 1}},
		{1, []int{0, 7}, []int{0, 1}},
		{1, []int{api.MaxFreq, 0, 0}, []int{1, 0, 0}},
		{15, []int{5, 5}, []int{1, 1}},
		{1, []int{5, 5}, []int{1, 1}},
		{1, []int{0, 1, 0, api.MaxFreq}, []int{0, 1, 0, 1}},
		{3, []int{1, 1, 2, 4}, []int{3, 3, 2, 1}},
		{4, []int{1, 1, 2, 4}, []int{3, 3, 2, 1}},
		{15, []int{4, 2, 1, 1}, []int{1, 2, 3, 3}},
		{2, []int{1, 1, 2, 4}, []int{2, 2, 2, 2}},
		{15, []int{1, 1, 1, 1, 1}, []int{3, 3, 2, 2, 2}},
		{3, []int{1, 2, 4, 8, 16}, []int{3, 3, 3, 3, 1}},
		{4, []int{1, 2, 4, 8, 16}, []int{4, 4, 3, 2, 1}},
		// A package of the weight 2 stands behind both leaves of that weight: 3 3 2 1 costs no more, but is not the answer.
		{3, []int{1, 1, 2, 2}, []int{2, 2, 2, 2}},
		{15, []int{2, 1, 2, 1}, []int{2, 2, 2, 2}},
		{2, []int{1, 1, 1}, []int{2, 2, 1}},
		{2, []int{1, 2, 1}, []int{2, 1, 2}},
		{15, []int{3, 0, 3, 0, 3}, []int{2, 0, 2, 0, 1}},
		{5, same(32, 9), same(32, 5)},
		{15, same(256, api.MaxFreq), same(256, 8)},
		{9, same(api.MaxSymbols, 1), append(same(64, 9), same(224, 8)...)},
		{15, same(api.MaxSymbols, 0), same(api.MaxSymbols, 0)},
		{15, doubled(16), []int{15, 15, 14, 13, 12, 11, 10, 9, 8, 7, 6, 5, 4, 3, 2, 1}},
	} {
		if got := lengths(t, c.limit, c.freq); !slices.Equal(got, c.want) {
			t.Errorf("Lengths(%d, %v) = %v, not %v", c.limit, c.freq, got, c.want)
		}
	}
}

// P4.1: by the way that the chapter names, whatever the counts.
func TestLengthsByHand(t *testing.T) {
	eachCode(t, func(limit int, freq, l []int) {
		if want := byHand(limit, freq); !slices.Equal(l, want) {
			t.Errorf("Lengths(%d, %v) = %v, not %v", limit, freq, l, want)
		}
	})
}

// P4.1: how many symbols a limit bears, at its end and beyond it.
func TestLengthsFull(t *testing.T) {
	for limit := 1; limit <= 8; limit++ {
		n := 1 << limit
		uneven := grown(min(n, 58))
		for len(uneven) < n {
			uneven = append(uneven, len(uneven))
		}
		for _, freq := range [][]int{same(n, 1), same(n, api.MaxFreq), uneven} {
			if inUse(freq) != n {
				t.Fatal("counts that do not fill the limit")
			}
			if got := lengths(t, limit, freq); !slices.Equal(got, same(n, limit)) {
				t.Errorf("%d symbols by limit %d: %v", n, limit, got)
			}
			apart := append([]int{0}, freq...)
			if got := lengths(t, limit, apart); !slices.Equal(got[1:], same(n, limit)) || got[0] != 0 {
				t.Errorf("%d symbols and one not in use by limit %d: %v", n, limit, got)
			}
			refused(t, api.ErrLensLimit, limit, append(freq, 1)...)
			refused(t, api.ErrLensLimit, limit, append([]int{1, 0}, freq...)...)
		}
	}
	for limit := 1; limit <= 8; limit++ {
		refused(t, api.ErrLensLimit, limit, same(api.MaxSymbols, 1)...)
	}
	for limit := 9; limit <= api.MaxLen; limit++ {
		lengths(t, limit, same(api.MaxSymbols, 1))
	}
}

func refused(t *testing.T, want api.Errno, limit int, freq ...int) {
	t.Helper()
	got, err := lens.Lengths(limit, freq...)
	if err != want || len(got) != 0 {
		t.Errorf("Lengths(%d, %v) = %v, error %d, not %d", limit, freq, got, int(err), int(want))
	}
}

// with: a copy of a list with one number set.
func with(list []int, at, v int) []int {
	out := slices.Clone(list)
	out[at] = v
	return out
}

// P4.1: what is refused, and which of two faults is told.
func TestLengthsRefused(t *testing.T) {
	many := same(api.MaxSymbols+1, 1)
	for _, limit := range []int{0, -1, 16, 17, 64, 256 + 5, 1<<32 + 5, math.MaxInt, math.MinInt} {
		refused(t, api.ErrArg, limit)
		refused(t, api.ErrArg, limit, 1)
		refused(t, api.ErrArg, limit, -1)
		refused(t, api.ErrArg, limit, many...)
		refused(t, api.ErrArg, limit, with(many, 0, -1)...)
	}
	for _, limit := range []int{1, 5, api.MaxLen} {
		refused(t, api.ErrLensMany, limit, make([]int, api.MaxSymbols+1)...)
		refused(t, api.ErrLensMany, limit, many...)
		refused(t, api.ErrLensMany, limit, make([]int, 100000)...)
		for _, f := range []int{-1, math.MinInt, api.MaxFreq + 1, math.MaxInt} {
			refused(t, api.ErrLensMany, limit, with(many, 0, f)...)
			refused(t, api.ErrLensFreq, limit, f)
			refused(t, api.ErrLensFreq, limit, 1, f)
			refused(t, api.ErrLensFreq, limit, f, 0)
			refused(t, api.ErrLensFreq, limit, with(same(api.MaxSymbols, 1), api.MaxSymbols-1, f)...)
			refused(t, api.ErrLensFreq, limit, with(same(api.MaxSymbols, 0), 7, f)...)
		}
	}
	refused(t, api.ErrLensFreq, 1, 1, 1, 1, -1)
	refused(t, api.ErrLensLimit, 1, 1, 1, 1)
	refused(t, api.ErrLensLimit, 1, 1, 1, 2, 4)
	refused(t, api.ErrLensLimit, 1, 1, 0, 1, 0, 1)
}

// P4.2: the cost, by the chapter's examples, the ends, and sums.
func TestCost(t *testing.T) {
	for _, c := range []struct {
		freq, l []int
		want    int
	}{
		{nil, nil, 0},
		{[]int{}, nil, 0},
		{[]int{1, 2}, []int{3, 0}, 3},
		{[]int{1, 2}, []int{0, 3}, 6},
		{[]int{0}, []int{15}, 0},
		{[]int{0, 0}, []int{0, 0}, 0},
		{[]int{1, 1, 2, 4}, []int{3, 3, 2, 1}, 14},
		{[]int{1, 1, 2, 4}, []int{2, 2, 2, 2}, 16},
		{[]int{1, 1, 2, 4}, []int{15, 15, 15, 15}, 120},
		// No lengths of a code, but lengths that may be.
		{[]int{10, 10, 10}, []int{1, 1, 1}, 30},
		{[]int{api.MaxFreq}, []int{api.MaxLen}, 15 << 40},
		{same(api.MaxSymbols, api.MaxFreq), same(api.MaxSymbols, api.MaxLen), 288 * 15 << 40},
	} {
		if got := cost(t, c.freq, c.l); got != c.want {
			t.Errorf("Cost(%v, %v) = %d, not %d", c.freq, c.l, got, c.want)
		}
	}
	r := rolls(42)
	for range 200 {
		n := r.below(api.MaxSymbols + 1)
		freq, l := r.counts(n, api.MaxFreq+1), r.counts(n, api.MaxLen+1)
		want := 0
		for i := range freq {
			for range l[i] {
				want += freq[i]
			}
		}
		if got := cost(t, freq, l); got != want {
			t.Errorf("Cost(%v, %v) = %d, not %d", freq, l, got, want)
		}
	}
}

// P4.2: what is refused, and which of two faults is told.
func TestCostRefused(t *testing.T) {
	refuse := func(want api.Errno, freq, l []int) {
		t.Helper()
		if got, err := lens.Cost(freq, l); err != want || got != 0 {
			t.Errorf("Cost(%v, %v) = %d, error %d, not %d", freq, l, got, int(err), int(want))
		}
	}
	refuse(api.ErrArg, []int{1, 2}, []int{3})
	refuse(api.ErrArg, []int{3}, []int{1, 2})
	refuse(api.ErrArg, nil, []int{0})
	refuse(api.ErrArg, []int{0}, nil)
	refuse(api.ErrArg, make([]int, 289), make([]int, 288))
	refuse(api.ErrArg, make([]int, 288), make([]int, 289))
	refuse(api.ErrArg, []int{-1}, []int{1, 16})
	refuse(api.ErrArg, []int{1, -1}, []int{-1})
	refuse(api.ErrLensMany, make([]int, 289), make([]int, 289))
	for _, f := range []int{-1, math.MinInt, api.MaxFreq + 1, math.MaxInt} {
		refuse(api.ErrLensMany, same(289, f), make([]int, 289))
		refuse(api.ErrLensFreq, []int{f}, []int{1})
		refuse(api.ErrLensFreq, []int{f}, []int{0})
		refuse(api.ErrLensFreq, []int{1, f}, []int{16, 1})
		refuse(api.ErrLensFreq, []int{1, f, 1}, []int{-1, 16, 1})
		refuse(api.ErrLensFreq, with(make([]int, 288), 287, f), make([]int, 288))
	}
	for _, l := range []int{-1, math.MinInt, api.MaxLen + 1, math.MaxInt} {
		refuse(api.ErrLensMany, make([]int, 289), same(289, l))
		refuse(api.ErrLensLimit, []int{1}, []int{l})
		refuse(api.ErrLensLimit, []int{0}, []int{l})
		refuse(api.ErrLensLimit, []int{1, 2}, []int{3, l})
		refuse(api.ErrLensLimit, []int{1, 2}, []int{l, 3})
		refuse(api.ErrLensLimit, same(288, api.MaxFreq), with(same(288, api.MaxLen), 287, l))
	}
}

// P4.3: by the chapter's examples, the ends, and by a list that is sorted each time.
func TestLeast(t *testing.T) {
	for _, c := range []struct {
		freq []int
		want int
	}{
		{nil, 0},
		{[]int{0, 0}, 0},
		{[]int{9}, 9},
		{[]int{0, 9, 0}, 9},
		{[]int{api.MaxFreq}, api.MaxFreq},
		{[]int{5, 5}, 10},
		{[]int{0, 5, 6}, 11},
		{[]int{1, 1, 2, 4}, 14},
		{[]int{4, 1, 0, 2, 1}, 14},
		{[]int{5, 4, 3, 2, 1}, 33},
		{same(256, api.MaxFreq), 256 * 8 << 40},
		{same(api.MaxSymbols, 1), 64*9 + 224*8},
		// Deeper than any limit: 40 bits at most.
		{doubled(41), 1<<41 - 2},
	} {
		if got := least(t, c.freq); got != c.want {
			t.Errorf("Least(%v) = %d, not %d", c.freq, got, c.want)
		}
	}
	check := func(freq []int) {
		if got, want := least(t, freq), huffman(freq); got != want {
			t.Errorf("Least(%v) = %d, not %d", freq, got, want)
		}
	}
	for _, freq := range sorts() {
		check(freq)
	}
	lists(6, 4, check)
}

// P4.3: what is refused, and which of two faults is told.
func TestLeastRefused(t *testing.T) {
	refuse := func(want api.Errno, freq ...int) {
		t.Helper()
		if got, err := lens.Least(freq...); err != want || got != 0 {
			t.Errorf("Least(%v) = %d, error %d, not %d", freq, got, int(err), int(want))
		}
	}
	refuse(api.ErrLensMany, make([]int, 289)...)
	refuse(api.ErrLensMany, same(289, 1)...)
	for _, f := range []int{-1, math.MinInt, api.MaxFreq + 1, math.MaxInt} {
		refuse(api.ErrLensMany, same(289, f)...)
		refuse(api.ErrLensFreq, f)
		refuse(api.ErrLensFreq, 0, f)
		refuse(api.ErrLensFreq, 1, 2, f)
		refuse(api.ErrLensFreq, f, 1, 2)
		refuse(api.ErrLensFreq, with(make([]int, 288), 287, f)...)
	}
}

// P4.4: no code is left over, and none is longer than the limit.
func TestWhole(t *testing.T) {
	eachCode(t, func(limit int, freq, l []int) {
		if len(l) != len(freq) {
			t.Fatalf("%d lengths of %d counts", len(l), len(freq))
		}
		sum := 0
		for i, f := range freq {
			switch {
			case f == 0 && l[i] != 0:
				t.Errorf("Lengths(%d, %v) = %v: symbol %d is not in use", limit, freq, l, i)
			case f != 0 && (l[i] < 1 || l[i] > limit):
				t.Errorf("Lengths(%d, %v) = %v: symbol %d", limit, freq, l, i)
			case f != 0:
				sum += 1 << (limit - l[i])
			}
		}
		if inUse(freq) >= 2 && sum != 1<<limit {
			t.Errorf("Lengths(%d, %v) = %v: not whole", limit, freq, l)
		}
	})
}

// P4.5 and G8: none is cheaper.
func TestCheapest(t *testing.T) {
	eachCode(t, func(limit int, freq, l []int) {
		if got, want := cost(t, freq, l), cheapest(limit, freq); got != want {
			t.Errorf("Lengths(%d, %v) = %v costs %d, not %d", limit, freq, l, got, want)
		}
	})
}

// P4.5 and G8: of few symbols, every code is tried.
func TestCheapestOfAll(t *testing.T) {
	r := rolls(45)
	for range 150 {
		freq := r.counts(2+r.below(4), 1+r.below(20))
		for i := range freq {
			freq[i]++
		}
		for limit := bits(len(freq)); limit <= 5; limit++ {
			had := cost(t, freq, lengths(t, limit, freq))
			lists(len(freq), limit, func(less []int) {
				if len(less) != len(freq) {
					return
				}
				sum, price := 0, 0
				for i, l := range less {
					sum += 1 << (limit - 1 - l)
					price += freq[i] * (l + 1)
				}
				if sum <= 1<<limit && price < had {
					t.Errorf("Lengths(%d, %v) costs %d, but %v, each with 1 more, costs %d", limit, freq, had, less, price)
				}
			})
		}
	}
}

// P4.6: who stands there more often has no greater length.
func TestOrder(t *testing.T) {
	eachCode(t, func(limit int, freq, l []int) {
		for i, f := range freq {
			for j, g := range freq {
				if f == 0 || g == 0 {
					continue
				}
				if (f > g || f == g && i > j) && l[i] > l[j] {
					t.Errorf("Lengths(%d, %v) = %v: symbol %d against %d", limit, freq, l, i, j)
				}
			}
		}
	})
}

// P4.7: the cost by rising limits, against Least.
func TestLimits(t *testing.T) {
	check := func(freq []int) {
		n, floor, last := inUse(freq), least(t, freq), math.MaxInt
		for limit := bits(n); limit <= api.MaxLen; limit++ {
			here := cost(t, freq, lengths(t, limit, freq))
			if here > last || here < floor {
				t.Errorf("Lengths(%d, %v) costs %d; by a limit below it %d; Least %d", limit, freq, here, last, floor)
			}
			if n >= 2 && limit >= n-1 && here != floor {
				t.Errorf("Lengths(%d, %v) costs %d, not Least %d", limit, freq, here, floor)
			}
			last = here
		}
	}
	for _, freq := range sorts() {
		check(freq)
	}
	lists(5, 4, check)
	for n := 2; n <= 16; n++ {
		check(doubled(n))
		check(grown(n))
	}
}

// P4.7: n - 1 is the limit from which on the deepest code is Least's, and not one below it.
func TestLimitsEnd(t *testing.T) {
	for n := 3; n <= 16; n++ {
		freq := make([]int, n)
		for i := range freq {
			freq[i] = 1 << (2 * i)
		}
		floor := least(t, freq)
		if got := cost(t, freq, lengths(t, n-1, freq)); got != floor {
			t.Errorf("%d symbols by limit %d cost %d, not %d", n, n-1, got, floor)
		}
		if n-2 < bits(n) {
			continue
		}
		if got := cost(t, freq, lengths(t, n-2, freq)); got <= floor {
			t.Errorf("%d symbols by limit %d cost %d, Least %d", n, n-2, got, floor)
		}
	}
}

// R3: what is handed in stays as it is, the room behind it too, and an answer is the caller's own.
func TestMemory(t *testing.T) {
	room := []int{9, 1, 0, 4, 4, 2, 77, 78, 79}
	freq := room[:6]
	kept := slices.Clone(room)
	first := lengths(t, 4, freq)
	want := slices.Clone(first)
	least(t, freq)
	cost(t, freq, first)
	if !slices.Equal(room, kept) {
		t.Errorf("the counts have become %v", room)
	}
	if !slices.Equal(first, want) {
		t.Errorf("the lengths have become %v", first)
	}
	clear(freq)
	if !slices.Equal(first, want) {
		t.Errorf("lengths that hang on the counts' memory: %v", first)
	}
	copy(freq, kept)
	spare := first[:cap(first)]
	for i := range spare {
		spare[i] = -1
	}
	if again := lengths(t, 4, freq); !slices.Equal(again, want) {
		t.Errorf("behind a change of the answer: %v", again)
	}
	if !slices.Equal(room, kept) {
		t.Errorf("the answer lies in the counts' memory: %v", room)
	}
}

// R4: the same answer of the same counts, whatever the list's room and whatever was asked ahead of it.
func TestTwice(t *testing.T) {
	eachCode(t, func(limit int, freq, l []int) {
		roomy := append(make([]int, 0, len(freq)+9), freq...)
		if again := lengths(t, limit, roomy); !slices.Equal(again, l) {
			t.Errorf("Lengths(%d, %v) = %v, and then %v", limit, freq, l, again)
		}
	})
}
