package sais_test

import (
	"cmp"
	"math"
	"slices"
)

// The chapter's words, one by one, however long they take.

// smallOf: of each suffix but the empty one whether it is less than the next one.
func smallOf(s []int) []bool {
	out := make([]bool, len(s))
	for i := range s {
		out[i] = slices.Compare(s[i:], s[i+1:]) < 0
	}
	return out
}

// turnsOf: the places above 0 whose suffix is small, the one ahead not.
func turnsOf(s []int) []int {
	small := smallOf(s)
	var out []int
	for i := 1; i < len(s); i++ {
		if small[i] && !small[i-1] {
			out = append(out, i)
		}
	}
	return out
}

// fewer: how many of s are less than v.
func fewer(s []int, v int) int {
	n := 0
	for _, w := range s {
		if w < v {
			n++
		}
	}
	return n
}

// arrayOf: the suffixes put in order by holding them against each other.
func arrayOf(s []int) []int {
	out := make([]int, len(s))
	for i := range out {
		out[i] = i
	}
	slices.SortFunc(out, func(a, b int) int { return slices.Compare(s[a:], s[b:]) })
	return out
}

// place: of the row that induceOf makes; what stands in it, and in which pass it was put in (0: it is empty).
type place struct{ i, pass int }

// induceOf: the three passes, in the chapter's words.
func induceOf(s, order []int) []int {
	small := smallOf(s)
	row := make([]place, len(s))
	head, end := map[int]int{}, map[int]int{}
	pass := 0
	begin := func() {
		pass++
		for _, v := range s {
			head[v], end[v] = fewer(s, v), fewer(s, v+1)-1
		}
	}
	toHead := func(i int) { row[head[s[i]]] = place{i, pass}; head[s[i]]++ }
	toEnd := func(i int) { row[end[s[i]]] = place{i, pass}; end[s[i]]-- }
	begin()
	for _, i := range slices.Backward(order) {
		toEnd(i)
	}
	begin()
	if len(s) > 0 {
		toHead(len(s) - 1)
	}
	for p := 0; p < len(row); p++ {
		if row[p].pass > 0 && row[p].i > 0 && !small[row[p].i-1] {
			toHead(row[p].i - 1)
		}
	}
	begin()
	for p := range row {
		if row[p].pass == 1 {
			row[p] = place{}
		}
	}
	for p := len(row) - 1; p >= 0; p-- {
		if row[p].pass > 0 && row[p].i > 0 && small[row[p].i-1] {
			toEnd(row[p].i - 1)
		}
	}
	out := make([]int, len(row))
	for p := range row {
		out[p] = row[p].i
		if row[p].pass == 0 {
			out[p] = -1
		}
	}
	return out
}

// spot: a place of a piece.
type spot struct {
	number int
	small  bool
}

// pieceOf: the piece of the r-th turn.
func pieceOf(s, turns []int, r int) []spot {
	small := smallOf(s)
	var out []spot
	if r+1 == len(turns) {
		for i := turns[r]; i < len(s); i++ {
			out = append(out, spot{s[i], small[i]})
		}
		return append(out, spot{number: math.MinInt})
	}
	for i := turns[r]; i <= turns[r+1]; i++ {
		out = append(out, spot{s[i], small[i]})
	}
	return out
}

// holdPieces: one against the other, place by place; below 0: the first one is less.
func holdPieces(a, b []spot) int {
	return slices.CompareFunc(a, b, func(x, y spot) int {
		if x.number != y.number {
			return cmp.Compare(x.number, y.number)
		}
		if x.small == y.small {
			return 0
		}
		if y.small {
			return -1
		}
		return 1
	})
}

// inOrder: is the row all suffixes but the empty one, each less than the next one? By ranks, so that long lists can be asked, too.
func inOrder(s, row []int) bool {
	n := len(s)
	if len(row) != n {
		return false
	}
	rank := make([]int, n+1)
	for r, i := range row {
		if i < 0 || i >= n || rank[i] != 0 {
			return false
		}
		rank[i] = r + 1 // the empty suffix keeps 0
	}
	for r := 1; r < n; r++ {
		a, b := row[r-1], row[r]
		if s[a] > s[b] || s[a] == s[b] && rank[a+1] > rank[b+1] {
			return false
		}
	}
	return true
}
