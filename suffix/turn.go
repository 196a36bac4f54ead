package suffix

import (
	"sapper/api"
	"sapper/sais"
)

// Turn: the last column of all suffixes in their order, and the place of the end in it.
func Turn(data []byte) ([]byte, int, api.Errno) {
	array, err := sorted(data)
	if err != api.OK {
		return nil, 0, err
	}
	end := 0
	out := make([]byte, 0, len(data))
	for row, at := range append([]int{len(data)}, array...) {
		if at == 0 {
			end = row
			continue
		}
		out = append(out, data[at-1])
	}
	return out, end, api.OK
}

// Unturn: the bytes of which that is the Turn.
func Unturn(b []byte, end int) ([]byte, api.Errno) {
	if len(b) > api.MaxImage {
		return nil, api.ErrSuffixMany
	}
	if end < 0 || end > len(b) {
		return nil, api.ErrSuffixPlace
	}
	rows := longer(b)
	out := make([]byte, len(b))
	row := 0
	for back := range len(b) {
		if row == end {
			// The whole data, and there are rows of which none is a suffix of it.
			return nil, api.ErrSuffixArray
		}
		last := row
		if row > end {
			last-- // the whole data's row has none
		}
		out[len(b)-1-back] = b[last]
		row = rows[last]
	}
	return out, api.OK
}

// longer: of each last in which row the suffix stands that begins with it. Those that begin with one byte stand to each other as the rows do that have it as their last.
func longer(lasts []byte) []int {
	next, _, _ := sais.Buckets(alphabet, numbers(lasts))
	out := make([]int, len(lasts))
	for i, v := range lasts {
		next[v]++ // ahead of the first one stands the row of the empty suffix, too
		out[i] = next[v]
	}
	return out
}
