package sais

// sorted: the suffixes of numbers from 0 on, in their order.
func sorted(s []int) []int {
	l := newList(s)
	return l.induce(l.ranked())
}

// ranked: the turns by the order of their suffixes.
func (l *list) ranked() []int {
	byPlace := turns(l.small)
	if len(byPlace) < 2 {
		return byPlace
	}
	// Whatever order the turns are in, the passes put them by their pieces; where no two are alike, that is all.
	byPiece := l.turnsOf(l.induce(byPlace), len(byPlace))
	names, count := l.names(byPlace, byPiece)
	if count == len(names) {
		return byPiece
	}
	// A turn's suffix is its piece and those behind it: they stand in the order of the suffixes of their names.
	out := sorted(names)
	for r, at := range out {
		out[r] = byPlace[at]
	}
	return out
}

// turnsOf: the turns, of which there are so many, as they stand in the row.
func (l *list) turnsOf(row []int, many int) []int {
	out := make([]int, 0, many)
	for _, i := range row {
		if isTurn(l.small, i) {
			out = append(out, i)
		}
	}
	return out
}

// names: of the turns as they stand in the list the names of their pieces, which count from 0 on by the pieces' order; and how many names there are.
func (l *list) names(byPlace, byPiece []int) ([]int, int) {
	// No two turns are neighbours, and the last place is none, so that half of its place tells a turn from all others.
	of := make([]int, len(l.nums)/2)
	count := 0
	for r, i := range byPiece {
		if r == 0 || !l.alike(byPiece[r-1], i) {
			count++
		}
		of[i/2] = count - 1
	}
	out := make([]int, len(byPlace))
	for at, i := range byPlace {
		out[at] = of[i/2]
	}
	return out, count
}

// alike: are the pieces of two turns the same?
func (l *list) alike(a, b int) bool {
	for i := range len(l.nums) - max(a, b) {
		if l.nums[a+i] != l.nums[b+i] || l.small[a+i] != l.small[b+i] {
			return false
		}
		// What is alike so far has its turns at the same places, but maybe for the first one.
		if i > 0 && isTurn(l.small, a+i) {
			return true
		}
	}
	// One of them goes up to the list's end, and no other one does.
	return false
}
