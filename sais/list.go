package sais

// none: what stands in a place that is empty.
const none = -1

// list: numbers from 0 on, and what the passes over them ask for.
type list struct {
	nums  []int
	small []bool // of each suffix
	from  []int  // where each number's bucket begins, and where the last one ends
	next  []int  // of each number the place that the pass at hand puts into next, or the one behind it
}

// newList: over the alphabet that is just enough, since a number that does not stand there has no part in any order.
func newList(s []int) *list {
	k := 0
	for _, v := range s {
		k = max(k, v+1)
	}
	return &list{nums: s, small: Types(s), from: bounds(k, s), next: make([]int, k)}
}

// areTurns: are these the list's turns, each once?
func (l *list) areTurns(order []int) bool {
	seen := make([]bool, len(l.nums))
	for _, i := range order {
		if i < 0 || i >= len(seen) || seen[i] || !isTurn(l.small, i) {
			return false
		}
		seen[i] = true
	}
	return len(order) == len(turns(l.small))
}

// induce: the row that the three passes make of the turns in this order.
func (l *list) induce(order []int) []int {
	row := make([]int, len(l.nums))
	for p := range row {
		row[p] = none
	}
	l.putTurns(row, order)
	l.putGreat(row)
	l.takeTurns(row)
	l.putSmall(row)
	return row
}

// putTurns: the turns, at the ends of their buckets, in their order.
func (l *list) putTurns(row, order []int) {
	copy(l.next, l.from[1:])
	m := len(order)
	for back := range m {
		l.putEnd(row, order[m-1-back])
	}
}

// putGreat: the suffixes that are not small, from the left to the right.
func (l *list) putGreat(row []int) {
	copy(l.next, l.from)
	n := len(row)
	if n > 0 {
		// The empty suffix, the least one, would stand ahead of the row and lead to this one.
		l.putHead(row, n-1)
	}
	for p := range n {
		if i := row[p]; i > 0 && !l.small[i-1] {
			l.putHead(row, i-1)
		}
	}
}

// takeTurns: what is small is gone, and that is the turns alone as long as putSmall has not begun.
func (l *list) takeTurns(row []int) {
	for p, i := range row {
		if i != none && l.small[i] {
			row[p] = none
		}
	}
}

// putSmall: the small suffixes, from the right to the left.
func (l *list) putSmall(row []int) {
	copy(l.next, l.from[1:])
	n := len(row)
	for back := range n {
		if i := row[n-1-back]; i > 0 && l.small[i-1] {
			l.putEnd(row, i-1)
		}
	}
}

// putHead: the suffix i into the first place of its bucket that is left.
func (l *list) putHead(row []int, i int) {
	v := l.nums[i]
	row[l.next[v]] = i
	l.next[v]++
}

// putEnd: the suffix i into the last place of its bucket that is left.
func (l *list) putEnd(row []int, i int) {
	v := l.nums[i]
	l.next[v]--
	row[l.next[v]] = i
}
