package sais_test

import (
	"math"
	"slices"
	"testing"

	"sapper/api"
	"sapper/sais"
)

// refused: all three calls that look at the alphabet answer this error, and nothing beside it.
func refused(t *testing.T, what string, k int, s, order []int, want api.Errno) {
	t.Helper()
	if from, to, err := sais.Buckets(k, s); err != want || len(from) != 0 || len(to) != 0 {
		t.Errorf("%s: Buckets: %d and %d numbers, %v", what, len(from), len(to), err)
	}
	if row, err := sais.Induce(k, s, order); err != want || len(row) != 0 {
		t.Errorf("%s: Induce: %d numbers, %v", what, len(row), err)
	}
	if row, err := sais.Array(k, s); err != want || len(row) != 0 {
		t.Errorf("%s: Array: %d numbers, %v", what, len(row), err)
	}
}

// P12.2 to P12.4: alphabets that may not be.
func TestWrongAlphabets(t *testing.T) {
	for _, k := range []int{-1, widest + 1, math.MinInt, math.MaxInt, -widest} {
		refused(t, "no number", k, nil, nil, api.ErrArg)
		refused(t, "numbers that are well", k, []int{0, 0}, nil, api.ErrArg)
		refused(t, "numbers that are not", k, []int{-1, math.MaxInt}, []int{9}, api.ErrArg)
	}
}

// P12.2 to P12.4: numbers outside of the alphabet, wherever they stand.
func TestWrongNumbers(t *testing.T) {
	for _, k := range []int{0, 1, 2, 5, 300} {
		for _, v := range []int{-1, k, k + 1, math.MinInt, math.MaxInt, widest} {
			refused(t, "alone", k, []int{v}, nil, api.ErrSaisValue)
			if k == 0 {
				continue
			}
			good := counted(9, func(i int) int { return i * 7 % k })
			for at := range good {
				s := slices.Insert(slices.Clone(good), at, v)
				refused(t, "among others", k, s, sais.Lms(s), api.ErrSaisValue)
			}
		}
	}
	refused(t, "of the widest alphabet", widest, []int{0, widest}, nil, api.ErrSaisValue)
	refused(t, "the chapter's", 2, []int{0, 2}, nil, api.ErrSaisValue)
}

// P12.2 to P12.4: more numbers than MaxImage, and which error comes first where several are due.
func TestTooManyNumbers(t *testing.T) {
	many := make([]int, api.MaxImage+1)
	refused(t, "too many", 1, many, nil, api.ErrSaisMany)
	refused(t, "too many, of no alphabet", 0, many, nil, api.ErrSaisMany)
	refused(t, "too many, and an order that is none", 1, many, []int{0}, api.ErrSaisMany)
	refused(t, "too many, an alphabet below 0", -1, many, nil, api.ErrArg)
	refused(t, "too many, an alphabet too wide", widest+1, many, nil, api.ErrArg)
	many[0] = -1
	refused(t, "too many, one below 0", 1, many, nil, api.ErrSaisMany)
	refused(t, "just as many, one below 0", 1, many[:api.MaxImage], nil, api.ErrSaisValue)
	refused(t, "a number and an order", 2, []int{1, 0, 2}, []int{7}, api.ErrSaisValue)
}

// P12.3: orders that are not the turns, each once.
func TestWrongOrders(t *testing.T) {
	s := []int{1, 0, 2, 0, 2, 0} // turns 1, 3
	for _, order := range [][]int{
		nil, {}, {1}, {3}, // some are not there
		{1, 1}, {3, 3}, // one twice, one not there
		{1, 3, 1}, {3, 1, 3}, {1, 3, 3, 1}, // too long
		{1, 2}, {0, 3}, {5, 1}, {1, 3, 5}, {1, 3, 0}, {2, 4}, // no turns
		{1, 6}, {6, 3}, {-1, 1}, {1, 3, -1}, {1, 3, 6}, // outside
		{1, math.MaxInt}, {math.MinInt, 3}, {math.MaxInt, math.MinInt},
	} {
		if row, err := sais.Induce(3, s, order); err != api.ErrArg || len(row) != 0 {
			t.Errorf("Induce of %v = %v, %v", order, row, err)
		}
	}
	long := make([]int, 100000)
	for i := range long {
		long[i] = 1 + i%2*2
	}
	if row, err := sais.Induce(3, s, long); err != api.ErrArg || len(row) != 0 {
		t.Error("Induce of an order with each turn over and over:", row, err)
	}
	for _, s := range [][]int{nil, {0}, {0, 1}, {1, 0}, {2, 2, 2}} {
		for _, order := range [][]int{{0}, {1}, {-1}, {len(s)}, {0, 0}} {
			if row, err := sais.Induce(3, s, order); err != api.ErrArg || len(row) != 0 {
				t.Errorf("Induce of %v, %v, where there is no turn = %v, %v", s, order, row, err)
			}
		}
		induce(t, 3, s, nil)
		induce(t, 3, s, []int{})
	}
}

// P12.3: of any order: the answer is there just if it is the turns, each once.
func TestAnyOrders(t *testing.T) {
	r := rolls(33)
	for _, s := range lists() {
		turns := turnsOf(s)
		order := r.shuffled(turns)
		switch {
		case len(order) == 0 || r.below(4) == 0:
			order = append(order, r.below(len(s)+2)-1)
		case r.below(3) == 0:
			order = order[1:]
		default:
			order[r.below(len(order))] = r.below(len(s)+2) - 1
		}
		kept := slices.Clone(order)
		slices.Sort(kept)
		row, err := sais.Induce(alphabet(s), s, order)
		if well := slices.Equal(kept, turns); well != (err == api.OK) || !well && (err != api.ErrArg || len(row) != 0) {
			t.Fatalf("Induce of %v, %v = %v, %v", s, order, row, err)
		}
	}
}

// R1: no call panics, whatever it is given.
func TestAnything(t *testing.T) {
	r := rolls(1)
	ends := []int{math.MinInt, -1, 0, 1, 2, 3, 4, widest - 1, widest, math.MaxInt}
	draw := func(most int) []int {
		return counted(r.below(most), func(int) int { return ends[r.below(7)+r.below(2)*r.below(4)] })
	}
	for range 3000 {
		s, order, k := draw(8), draw(4), ends[r.below(len(ends))]
		if k == widest || k == widest-1 {
			k = 5 // which takes less time
		}
		sais.Types(s)
		sais.Lms(s)
		_, _, first := sais.Buckets(k, s)
		if _, err := sais.Array(k, s); err != first {
			t.Fatalf("Array(%d, %v): %v, not %v", k, s, err, first)
		}
		_, err := sais.Induce(k, s, order)
		if first != api.OK && err != first || first == api.OK && err != api.OK && err != api.ErrArg {
			t.Fatalf("Induce(%d, %v, %v): %v", k, s, order, err)
		}
	}
}

// roomy: the same numbers, with room behind them that holds others; and all of it.
func roomy(s []int) ([]int, []int) {
	all := append(slices.Clone(s), -7, 5, 1, 0, 99)
	return all[:len(s)], all
}

// R3: what is handed in stays as it is, and so does the room behind it.
func TestListsStay(t *testing.T) {
	for _, s := range lists() {
		list, all := roomy(s)
		turns := turnsOf(s)
		order, allOrder := roomy(turns)
		k := alphabet(s)
		sais.Types(list)
		sais.Lms(list)
		sais.Buckets(k, list)
		array(t, k, list)
		induce(t, k, list, order)
		sais.Induce(k, list, append(order[:len(order):len(order)], 3))
		_, before := roomy(s)
		_, beforeOrder := roomy(turns)
		if !slices.Equal(all, before) || !slices.Equal(allOrder, beforeOrder) {
			t.Fatalf("of %v, %v: %v and %v", s, turns, all, allOrder)
		}
	}
}

// spoil: all of an answer, and the room behind it, is written over.
func spoil[T any](l []T, v T) {
	l = l[:cap(l)]
	for i := range l {
		l[i] = v
	}
	_ = append(l, v)
}

// R3: an answer is new memory, its spare room too; neither another answer nor an argument hangs on it.
func TestAnswersAreNew(t *testing.T) {
	for _, s := range append(pieces(), nil, []int{0}, []int{4, 4}, deep(5)) {
		k, turns := alphabet(s), turnsOf(s)
		kept, order := slices.Clone(s), slices.Clone(turns)
		small, lms := sais.Types(s), sais.Lms(s)
		from, to, _ := sais.Buckets(k, s)
		row, induced := array(t, k, s), induce(t, k, s, order)
		wantFrom, wantTo, wantRow := slices.Clone(from), slices.Clone(to), slices.Clone(row)
		spoil(small, true)
		spoil(lms, -3)
		spoil(induced, -3)
		spoil(from, -3)
		if !slices.Equal(to, wantTo) || !slices.Equal(row, wantRow) {
			t.Fatalf("of %v: one answer hangs on another one: %v %v", s, to, row)
		}
		spoil(to, -3)
		spoil(row, -3)
		if !slices.Equal(s, kept) || !slices.Equal(order, turns) {
			t.Fatalf("of %v: an argument hangs on an answer: %v %v", kept, s, order)
		}
		holdTypes(t, s)
		from, to, _ = sais.Buckets(k, s)
		if !slices.Equal(from, wantFrom) || !slices.Equal(to, wantTo) || !slices.Equal(array(t, k, s), wantRow) {
			t.Fatalf("of %v: a later answer hangs on an earlier one", s)
		}
	}
}

// R3: an answer does not hang on what its arguments are later.
func TestAnswersStay(t *testing.T) {
	for _, s := range append(pieces(), []int{0}, []int{4, 4}, deep(5)) {
		list, order := slices.Clone(s), turnsOf(s)
		k := alphabet(s)
		from, to, _ := sais.Buckets(k, list)
		small, lms, row, induced := sais.Types(list), sais.Lms(list), array(t, k, list), induce(t, k, list, order)
		want := induceOf(s, order)
		spoil(list, -3)
		spoil(order, -3)
		if !slices.Equal(small, smallOf(s)) || !slices.Equal(lms, turnsOf(s)) || !slices.Equal(row, arrayOf(s)) || !slices.Equal(induced, want) {
			t.Fatalf("of %v: %v %v %v %v", s, small, lms, row, induced)
		}
		for v := range k {
			if from[v] != fewer(s, v) || to[v] != fewer(s, v+1) {
				t.Fatalf("of %v: %v %v", s, from, to)
			}
		}
	}
}

// R4: what is answered hangs on the arguments alone: not on what was asked ahead, nor on a capacity.
func TestSameEachTime(t *testing.T) {
	first := [][]int{}
	for _, s := range pieces() {
		first = append(first, array(t, alphabet(s), s))
	}
	for i, s := range slices.Backward(pieces()) {
		list, _ := roomy(s)
		if got := array(t, alphabet(s), list); !slices.Equal(got, first[i]) {
			t.Errorf("of %v: %v, then %v", s, first[i], got)
		}
	}
}

// nil and empty lists are the same.
func TestNilAndEmpty(t *testing.T) {
	for _, s := range [][]int{nil, {}} {
		if len(sais.Types(s)) != 0 || len(sais.Lms(s)) != 0 {
			t.Error("Types or Lms of no number")
		}
		for _, k := range []int{0, 1, 3} {
			from, to, err := sais.Buckets(k, s)
			if err != api.OK || !slices.Equal(from, make([]int, k)) || !slices.Equal(to, make([]int, k)) {
				t.Error("Buckets of no number:", from, to, err)
			}
			if len(array(t, k, s)) != 0 || len(induce(t, k, s, nil)) != 0 || len(induce(t, k, s, []int{})) != 0 {
				t.Error("Array or Induce of no number over", k)
			}
		}
	}
	if got := array(t, widest, nil); len(got) != 0 {
		t.Error("Array of no number over the widest alphabet:", got)
	}
}
