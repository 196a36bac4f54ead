package sais_test

import (
	"math"
	"slices"
	"testing"
	"time"

	"sapper/api"
	"sapper/sais"
)

const widest = 1 << 25 // the greatest alphabet

// array: the answer of a list that may be over k.
func array(t *testing.T, k int, s []int) []int {
	t.Helper()
	row, err := sais.Array(k, s)
	if err != api.OK {
		t.Fatalf("Array(%d, of %d numbers): %v", k, len(s), err)
	}
	return row
}

// induce: the answer of a list that may be over k, and its turns.
func induce(t *testing.T, k int, s, order []int) []int {
	t.Helper()
	row, err := sais.Induce(k, s, order)
	if err != api.OK {
		t.Fatalf("Induce(%d, %v, %v): %v", k, s, order, err)
	}
	return row
}

// orders: some of the orders in which the turns may be handed in: all of few, of more as they are, turned round, and shuffled.
func orders(r *rolls, turns []int) [][]int {
	if len(turns) < 4 {
		return allOrders(turns)
	}
	back := slices.Clone(turns)
	slices.Reverse(back)
	return [][]int{turns, back, r.shuffled(turns), r.shuffled(turns)}
}

// allOrders: each order of the list's numbers, which are unlike.
func allOrders(l []int) [][]int {
	if len(l) == 0 {
		return [][]int{nil}
	}
	var out [][]int
	for i, first := range l {
		rest := slices.Concat(l[:i], l[i+1:])
		for _, tail := range allOrders(rest) {
			out = append(out, append([]int{first}, tail...))
		}
	}
	return out
}

// P12.1 to P12.4: the chapter's examples.
func TestExamples(t *testing.T) {
	banana := []int{1, 0, 2, 0, 2, 0}
	sorted := []int{5, 3, 1, 0, 4, 2}
	if got := sais.Types(banana); !slices.Equal(got, []bool{false, true, false, true, false, false}) {
		t.Error("Types of banana:", got)
	}
	if got := sais.Lms(banana); !slices.Equal(got, []int{1, 3}) {
		t.Error("Lms of banana:", got)
	}
	from, to, err := sais.Buckets(3, banana)
	if err != api.OK || !slices.Equal(from, []int{0, 3, 4}) || !slices.Equal(to, []int{3, 4, 6}) {
		t.Error("Buckets of banana:", from, to, err)
	}
	if got := induce(t, 3, banana, []int{3, 1}); !slices.Equal(got, sorted) {
		t.Error("Induce of banana:", got)
	}
	if got := induce(t, 3, banana, []int{1, 3}); !slices.Equal(got, sorted) {
		t.Error("Induce of banana, the turns rising:", got)
	}
	for _, c := range []struct {
		k       int
		s, want []int
	}{
		{3, banana, sorted},
		{0, nil, nil},
		{0, []int{}, nil},
		{1, []int{0, 0, 0}, []int{2, 1, 0}},
		{3, []int{0, 1, 2}, []int{0, 1, 2}},
		{3, []int{2, 1, 0}, []int{2, 1, 0}},
		{4, []int{1, 0, 3, 3, 0, 3, 3, 0, 2, 2, 0}, []int{10, 7, 4, 1, 0, 9, 8, 6, 3, 5, 2}},
	} {
		if got := array(t, c.k, c.s); !slices.Equal(got, c.want) {
			t.Errorf("Array(%d, %v) = %v", c.k, c.s, got)
		}
	}
}

// P12.1: of lists of every kind which suffixes are small, and where the turns are.
func TestTypesAndLms(t *testing.T) {
	for _, s := range lists() {
		holdTypes(t, s)
	}
	for _, s := range [][]int{nil, {0}, {1, 1}, {1, 2, 3}, {3, 2, 1}, {0, 0, 0, 0}, {1, 1, 2, 2}, {2, 2, 1, 1}} {
		if got := sais.Lms(s); len(got) != 0 {
			t.Errorf("Lms(%v) = %v, where there is no turn", s, got)
		}
	}
	if got := sais.Lms([]int{2, 1, 1, 3}); !slices.Equal(got, []int{1}) {
		t.Error("Lms of one turn:", got)
	}
}

// holdTypes: Types and Lms against the chapter's words.
func holdTypes(t *testing.T, s []int) {
	t.Helper()
	if got, want := sais.Types(s), smallOf(s); !slices.Equal(got, want) {
		t.Fatalf("Types(%v) = %v, not %v", s, got, want)
	}
	if got, want := sais.Lms(s), turnsOf(s); !slices.Equal(got, want) {
		t.Fatalf("Lms(%v) = %v, not %v", s, got, want)
	}
}

// P12.1: any numbers will do, the least and the greatest, too, and any number of them.
func TestTypesOfAnyNumbers(t *testing.T) {
	ends := []int{math.MinInt, math.MaxInt, -1, 0, math.MinInt + 1}
	for _, s := range short(5, len(ends)) {
		for i, v := range s {
			s[i] = ends[v]
		}
		holdTypes(t, s)
	}
	many := make([]int, api.MaxImage+1)
	many[api.MaxImage], many[1] = -5, -5
	small := sais.Types(many)
	if len(small) != len(many) || small[0] || !small[1] || small[2] || small[api.MaxImage] {
		t.Error("Types of more than MaxImage numbers:", len(small))
	}
	if got := sais.Lms(many); !slices.Equal(got, []int{1}) {
		t.Error("Lms of more than MaxImage numbers:", got)
	}
}

// P12.2: how many are less, and how many at most that; alphabets that are just enough, and larger ones.
func TestBuckets(t *testing.T) {
	for _, s := range lists() {
		for _, k := range []int{alphabet(s), alphabet(s) + 1, alphabet(s) + 9} {
			from, to, err := sais.Buckets(k, s)
			if err != api.OK || len(from) != k || len(to) != k {
				t.Fatalf("Buckets(%d, %v) = %v, %v, %v", k, s, from, to, err)
			}
			for v := range k {
				if from[v] != fewer(s, v) || to[v] != fewer(s, v+1) {
					t.Fatalf("Buckets(%d, %v): of %d: %d, %d", k, s, v, from[v], to[v])
				}
			}
		}
	}
}

// P12.2: the buckets are what the chapter calls so: the ranks of the suffixes that begin with the number.
func TestBucketsAreRanks(t *testing.T) {
	for _, s := range lists() {
		k := alphabet(s)
		from, to, _ := sais.Buckets(k, s)
		row := array(t, k, s)
		for v := range k {
			for rank, i := range row {
				if inside := from[v] <= rank && rank < to[v]; inside != (s[i] == v) {
					t.Fatalf("Buckets(%d, %v): rank %d, number %d: %v %v", k, s, rank, v, from, to)
				}
			}
		}
	}
}

// P12.2, P12.4: the widest alphabet; as many numbers as may be.
func TestWidest(t *testing.T) {
	s := []int{widest - 1, 0, widest - 1, 7}
	from, to, err := sais.Buckets(widest, s)
	if err != api.OK || len(from) != widest || len(to) != widest {
		t.Fatal("Buckets over the widest alphabet:", len(from), len(to), err)
	}
	for v := range widest {
		less, most := 2, 2
		switch {
		case v == 0:
			less, most = 0, 1
		case v < 7:
			less, most = 1, 1
		case v == 7:
			less = 1
		case v == widest-1:
			most = 4
		}
		if from[v] != less || to[v] != most {
			t.Fatalf("Buckets over the widest alphabet: of %d: %d, %d", v, from[v], to[v])
		}
	}
	if got := array(t, widest, s); !slices.Equal(got, []int{1, 3, 0, 2}) {
		t.Error("Array over the widest alphabet:", got)
	}
	if got := induce(t, widest, s, []int{1}); !slices.Equal(got, []int{1, 3, 0, 2}) {
		t.Error("Induce over the widest alphabet:", got)
	}
	many := make([]int, api.MaxImage)
	from, to, err = sais.Buckets(1, many)
	if err != api.OK || !slices.Equal(from, []int{0}) || !slices.Equal(to, []int{api.MaxImage}) {
		t.Error("Buckets of MaxImage numbers:", from, to, err)
	}
	for rank, i := range array(t, 1, many) {
		if i != api.MaxImage-1-rank {
			t.Fatalf("Array of MaxImage numbers: at %d: %d", rank, i)
		}
	}
}

// P12.3: what the three passes make, whichever order the turns are in.
func TestInduce(t *testing.T) {
	r := rolls(3)
	for _, s := range lists() {
		for _, order := range orders(&r, turnsOf(s)) {
			want := induceOf(s, order)
			for _, k := range []int{alphabet(s), alphabet(s) + 5} {
				if got := induce(t, k, s, order); !slices.Equal(got, want) {
					t.Fatalf("Induce(%d, %v, %v) = %v, not %v", k, s, order, got, want)
				}
			}
		}
	}
}

// P12.3: the order has a part where pieces are alike.
func TestInduceHangsOnOrder(t *testing.T) {
	s := []int{1, 0, 3, 3, 0, 3, 3, 0, 2, 2, 0} // the pieces of 1 and 4 are alike
	if got := induce(t, 4, s, []int{7, 4, 1}); !slices.Equal(got, []int{10, 7, 4, 1, 0, 9, 8, 6, 3, 5, 2}) {
		t.Error("the turns by their suffixes:", got)
	}
	if got := induce(t, 4, s, []int{1, 4, 7}); !slices.Equal(got, []int{10, 7, 1, 4, 0, 9, 8, 3, 6, 2, 5}) {
		t.Error("the turns rising:", got)
	}
}

// P12.4, P12.5, G6: the one order of all suffixes, of lists short and long.
func TestArray(t *testing.T) {
	for _, s := range slices.Concat(lists(), short(12, 2), short(8, 3), short(6, 5)) {
		holdArray(t, s)
	}
	r := rolls(5)
	for _, n := range []int{200, 1000, 3000} {
		for range 5 {
			k := 1 + r.below(300)
			holdArray(t, r.list(n, k))
			holdArray(t, r.list(n, 2))
			holdArray(t, r.copied(n, k))
			holdArray(t, r.copied(n, 2))
		}
		for _, s := range shapes(n) {
			holdArray(t, s.list)
		}
	}
}

// holdArray: Array against the order by definition, over the alphabet that is just enough and a larger one.
func holdArray(t *testing.T, s []int) {
	t.Helper()
	want := arrayOf(s)
	if !inOrder(s, want) {
		t.Fatalf("the test is wrong of %v", s)
	}
	for _, k := range []int{alphabet(s), alphabet(s) + 1000} {
		if got := array(t, k, s); !slices.Equal(got, want) {
			t.Fatalf("Array(%d, %v) = %v, not %v", k, s, got, want)
		}
	}
}

// P12.4: time in proportion, whatever the numbers are. A way that holds suffixes against each other would take hours of some of these.
func TestArrayOfLongLists(t *testing.T) {
	const n, limit = 1 << 19, 30 * time.Second
	for _, c := range append(shapes(n), shape{"named over and over", deep(18)}) {
		begin := time.Now()
		row := array(t, alphabet(c.list), c.list)
		if took := time.Since(begin); took > limit {
			t.Errorf("%s: %v for %d numbers", c.name, took, len(c.list))
		}
		if !inOrder(c.list, row) {
			t.Errorf("%s: not the order of the suffixes", c.name)
		}
	}
}

// P12.4: lists whose pieces are named, their names' pieces named, and so on: as deep as it goes.
func TestArrayDeep(t *testing.T) {
	for times := range 11 {
		s := deep(times)
		holdArray(t, s)
		holdArray(t, s[1:])
		holdArray(t, append(slices.Clone(s), 0))
		holdArray(t, append(slices.Clone(s), times+1))
		holdArray(t, slices.Concat(s, s))
	}
}

// P12.6: the turns by the order of their suffixes lead to the order of all.
func TestInduceOfSortedTurns(t *testing.T) {
	for _, s := range lists() {
		k := alphabet(s)
		row := array(t, k, s)
		order := slices.DeleteFunc(slices.Clone(row), func(i int) bool { return !slices.Contains(turnsOf(s), i) })
		if got := induce(t, k, s, order); !slices.Equal(got, row) {
			t.Fatalf("Induce(%d, %v, %v) = %v, not %v", k, s, order, got, row)
		}
	}
}

// P12.7: whatever order is, the turns with lesser pieces stand ahead.
func TestInduceSortsPieces(t *testing.T) {
	r := rolls(7)
	for _, s := range lists() {
		turns := turnsOf(s)
		rows := make([][]spot, len(turns))
		for i := range turns {
			rows[i] = pieceOf(s, turns, i)
		}
		for _, order := range orders(&r, turns) {
			got := induce(t, alphabet(s), s, order)
			last := -1 // of turns, the one that stands ahead
			for _, i := range got {
				at := slices.Index(turns, i)
				if at < 0 {
					continue
				}
				if last >= 0 && holdPieces(rows[last], rows[at]) > 0 {
					t.Fatalf("Induce of %v, %v = %v: %d ahead of %d", s, order, got, turns[last], i)
				}
				last = at
			}
		}
	}
}

// P12.7: pieces where one is the beginning of another, where it is small or not that tells them apart, and the last turn's.
func TestPiecesNearEachOther(t *testing.T) {
	for _, c := range []struct {
		s    []int
		a, b int // turns, the one with the lesser piece first
	}{
		{[]int{2, 1, 2, 1, 2, 1, 0, 1}, 3, 1},          // 1 2 1 0 ahead of 1 2 1: where that ends it is small, and the other not
		{[]int{3, 0, 2, 2, 1, 3, 0, 2, 2, 3, 1}, 1, 6}, // 0 2 2 1, 0 2 2 3
		{[]int{1, 0, 2, 0, 2, 0}, 3, 1},                // 0 2 0, at its end, ahead of 0 2 0
		{[]int{1, 0, 1, 0, 1}, 3, 1},                   // 0 1, at its end, ahead of 0 1 0
		{[]int{1, 0, 1, 1, 0, 1, 0, 1, 1}, 4, 1},       // 0 1 0 ahead of 0 1 1 0
		{[]int{1, 0, 1, 1, 0, 1, 0, 1, 1}, 6, 1},       // 0 1 1, at its end, ahead of 0 1 1 0
	} {
		turns := turnsOf(c.s)
		for _, order := range allOrders(turns) {
			got := induce(t, alphabet(c.s), c.s, order)
			if slices.Index(got, c.a) > slices.Index(got, c.b) {
				t.Errorf("Induce of %v, %v = %v: %d not ahead of %d", c.s, order, got, c.a, c.b)
			}
		}
	}
}

// P12.8: other numbers in the same order, over whatever alphabet.
func TestOrderAlone(t *testing.T) {
	r := rolls(8)
	for _, s := range lists() {
		k := alphabet(s)
		want := array(t, k, s)
		for _, gap := range []int{1, 2, 50} {
			raised := make([]int, k)
			top := r.below(gap)
			for v := range raised {
				raised[v] = top
				top += 1 + r.below(gap)
			}
			other := make([]int, len(s))
			for i, v := range s {
				other[i] = raised[v]
			}
			if got := array(t, top+r.below(9), other); !slices.Equal(got, want) {
				t.Fatalf("Array of %v = %v, of %v = %v", other, got, s, want)
			}
		}
	}
}
