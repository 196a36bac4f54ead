package sais_test

import "slices"

// rolls: numbers that follow no pattern and are the same at each run.
type rolls uint64

// below: a number from 0 on, below n.
func (r *rolls) below(n int) int {
	*r = *r*6364136223846793005 + 1442695040888963407
	return int(uint64(*r>>33) % uint64(n))
}

// list: n numbers below k.
func (r *rolls) list(n, k int) []int {
	out := make([]int, n)
	for i := range out {
		out[i] = r.below(k)
	}
	return out
}

// copied: n numbers below k, of which many are copies of those ahead.
func (r *rolls) copied(n, k int) []int {
	out := r.list(min(n, 3), k)
	for len(out) < n {
		if r.below(4) == 0 {
			out = append(out, r.below(k))
			continue
		}
		dist := 1 + r.below(len(out))
		for range 1 + r.below(20) {
			out = append(out, out[len(out)-dist])
		}
	}
	return out[:n]
}

// shuffled: the same numbers in any order.
func (r *rolls) shuffled(l []int) []int {
	out := slices.Clone(l)
	for i := range out {
		j := i + r.below(len(out)-i)
		out[i], out[j] = out[j], out[i]
	}
	return out
}

// counted: n numbers, each of its place.
func counted(n int, of func(i int) int) []int {
	out := make([]int, n)
	for i := range out {
		out[i] = of(i)
	}
	return out
}

// alphabet: the least one that the list is over.
func alphabet(s []int) int {
	k := 0
	for _, v := range s {
		k = max(k, v+1)
	}
	return k
}

// short: all lists of at most n numbers below k.
func short(n, k int) [][]int {
	out := [][]int{nil}
	for from := 0; n > 0; n-- {
		to := len(out)
		for _, s := range out[from:to] {
			for v := range k {
				out = append(out, append(slices.Clone(s), v))
			}
		}
		from = to
	}
	return out
}

// deep: of each number a 0 and the next number: the names of its pieces are the list that it was made of, so that they are named so many times.
func deep(times int) []int {
	s := []int{0, 0}
	for range times {
		next := make([]int, 0, 2*len(s))
		for _, v := range s {
			next = append(next, 0, v+1)
		}
		s = next
	}
	return s
}

// golden: each 0 becomes 0 1, each 1 becomes 0: a list without a period.
func golden(n int) []int {
	a, b := []int{0}, []int{0, 1}
	for len(b) < n {
		a, b = b, slices.Concat(b, a)
	}
	return b[:n]
}

// parity: whether each place has an odd number of bits.
func parity(n int) []int {
	out := make([]int, n)
	for i := range out {
		if i > 0 {
			out[i] = out[i/2] ^ i&1
		}
	}
	return out
}

// shape: a list, and what it is like.
type shape struct {
	name string
	list []int
}

// shapes: lists of n numbers that follow a rule.
func shapes(n int) []shape {
	r := rolls(n)
	return []shape{
		{"alike", make([]int, n)},
		{"alike above 0", counted(n, func(int) int { return 3 })},
		{"rising", counted(n, func(i int) int { return i })},
		{"falling", counted(n, func(i int) int { return n - 1 - i })},
		{"by turns", counted(n, func(i int) int { return i % 2 })},
		{"by turns, from 1 on", counted(n, func(i int) int { return 1 - i%2 })},
		{"period of three", counted(n, func(i int) int { return i % 3 })},
		{"period of seven", counted(n, func(i int) int { return i * i % 7 })},
		{"period of a hundred", counted(n, func(i int) int { return i % 100 * 37 % 11 })},
		{"alike, the last less", counted(n, func(i int) int { return min(1, n-1-i) })},
		{"alike, the last more", counted(n, func(i int) int { return (i + 1) / n })},
		{"alike, one less", counted(n, func(i int) int { return min(1, max(i-n/2, n/2-i)) })},
		{"up and down", counted(n, func(i int) int { return min(i, n-1-i) })},
		{"down and up", counted(n, func(i int) int { return max(i, n-1-i) })},
		{"two halves alike", counted(n, func(i int) int { return i % max(1, n/2) * 7919 % 13 })},
		{"golden", golden(n)},
		{"parity", parity(n)},
		{"two numbers", r.list(n, 2)},
		{"bytes", r.list(n, 256)},
		{"many numbers", r.list(n, 10*n+1)},
		{"copies", r.copied(n, 3)},
		{"copies of bytes", r.copied(n, 256)},
	}
}

// lists: those that are held against the chapter's words.
func lists() [][]int {
	out := slices.Concat(short(9, 2), short(6, 3), short(5, 4))
	for n := range 24 {
		for _, s := range shapes(n) {
			out = append(out, s.list)
		}
	}
	r := rolls(12)
	for range 400 {
		n, k := 10+r.below(40), 1+r.below(6)
		out = append(out, r.list(n, k), r.copied(n, k))
	}
	for times := range 6 {
		out = append(out, deep(times))
	}
	return append(out, pieces()...)
}

// pieces: lists whose pieces are near to one another.
func pieces() [][]int {
	return [][]int{
		{1, 0, 2, 0, 2, 0},                            // the last turn's piece goes up to the end
		{1, 0, 3, 3, 0, 3, 3, 0, 2, 2, 0},             // alike
		{2, 1, 2, 1, 2, 1, 0, 1},                      // one the beginning of another, alike in numbers where the one ends
		{2, 1, 2, 1, 0, 1, 2, 1, 2, 1, 0, 1},          // the same, and once more
		{3, 0, 2, 2, 1, 3, 0, 2, 2, 3, 1},             // small or not ahead of the first other number
		{3, 0, 1, 1, 0, 1, 1, 1, 0, 1, 1, 0, 1, 1, 1}, // some longer by one more of the same
		{1, 0, 1, 0, 1, 0, 1},                         // the last one is the beginning of all others
		{1, 0, 1, 1, 0, 1, 0, 1, 1},                   // the last one longer
		{2, 0, 1, 2, 0, 1, 2, 0, 1},
		{2, 0, 0, 1, 2, 0, 0, 1, 2, 0, 1},
		{5, 1, 4, 1, 4, 0, 5, 1, 4, 1, 4, 0, 5, 1, 4, 1, 4, 1},
	}
}
