package find_test

import (
	"bytes"
	"slices"
)

// rolls: numbers that follow no pattern and are the same at each run.
type rolls uint64

// below: a number from 0 on, below n.
func (r *rolls) below(n int) int {
	*r = *r*6364136223846793005 + 1442695040888963407
	return int(uint64(*r>>33) % uint64(n))
}

// letter: one of k bytes, 0 and 255 among them where there are two or more.
func letter(i, k int) byte {
	if k < 2 {
		return 'a'
	}
	return byte(i * 255 / (k - 1))
}

// data: n bytes of k letters.
func (r *rolls) data(n, k int) []byte {
	out := make([]byte, n)
	for i := range out {
		out[i] = letter(r.below(k), k)
	}
	return out
}

// copied: n bytes of k letters, of which many are copies of those ahead.
func (r *rolls) copied(n, k int) []byte {
	out := r.data(min(n, 3), k)
	for len(out) < n {
		if r.below(4) == 0 {
			out = append(out, letter(r.below(k), k))
			continue
		}
		dist := 1 + r.below(len(out))
		for range 1 + r.below(20) {
			out = append(out, out[len(out)-dist])
		}
	}
	return out[:n]
}

// counted: n bytes, each of its place.
func counted(n int, of func(i int) int) []byte {
	out := make([]byte, n)
	for i := range out {
		out[i] = byte(of(i))
	}
	return out
}

// short: all data of at most n bytes of k letters.
func short(n, k int) [][]byte {
	out := [][]byte{nil}
	for from := 0; n > 0; n-- {
		to := len(out)
		for _, d := range out[from:to] {
			for v := range k {
				out = append(out, append(slices.Clone(d), letter(v, k)))
			}
		}
		from = to
	}
	return out
}

// golden: each a becomes ab, each b becomes a: data without a period.
func golden(n int) []byte {
	a, b := []byte("a"), []byte("ab")
	for len(b) < n {
		a, b = b, slices.Concat(b, a)
	}
	return b[:n]
}

// parity: whether each place has an odd number of bits.
func parity(n int) []byte {
	out := make([]byte, n)
	for i := range out {
		if i > 0 {
			out[i] = out[i/2] ^ byte(i&1)
		}
	}
	return out
}

// shape: data, and what it is like.
type shape struct {
	name string
	data []byte
}

// shapes: data of n bytes that follow a rule.
func shapes(n int) []shape {
	r := rolls(n)
	return []shape{
		{"alike, of 0", make([]byte, n)},
		{"alike, of 255", bytes.Repeat([]byte{255}, n)},
		{"rising", counted(n, func(i int) int { return i * 255 / max(1, n-1) })},
		{"falling", counted(n, func(i int) int { return 255 - i*255/max(1, n-1) })},
		{"by turns", counted(n, func(i int) int { return i % 2 * 255 })},
		{"by turns, from 255 on", counted(n, func(i int) int { return 255 - i%2*255 })},
		{"period of three", counted(n, func(i int) int { return i % 3 })},
		{"period of seven", counted(n, func(i int) int { return i * i % 7 })},
		{"period of 256", counted(n, func(i int) int { return i })},
		{"alike, the last less", counted(n, func(i int) int { return min(1, n-1-i) })},
		{"alike, the last more", counted(n, func(i int) int { return (i + 1) / n })},
		{"alike, one less", counted(n, func(i int) int { return min(1, max(i-n/2, n/2-i)) })},
		{"alike, the first more", counted(n, func(i int) int { return 1 - min(1, i) })},
		{"up and down", counted(n, func(i int) int { return min(i, n-1-i, 255) })},
		{"two halves alike", counted(n, func(i int) int { return i % max(1, n/2) * 7919 % 13 })},
		{"golden", golden(n)},
		{"parity", parity(n)},
		{"two letters", r.data(n, 2)},
		{"bytes", r.data(n, 256)},
		{"copies", r.copied(n, 3)},
		{"copies of bytes", r.copied(n, 256)},
	}
}

// words: data that the chapter, or the tests, speak of.
func words() [][]byte {
	var out [][]byte
	for _, w := range []string{
		"", "a", "ab", "ba", "aa", "banana", "mississippi", "abracadabra", "nab", "nabxa",
		"aaaa", "ababab", "abcabcabc", "abcdef", "fedcba", "aXbXc", "abxabyab", "xaybxazb", "abcaba", "abcbcd",
		"\x00", "\xff", "\x00\x00", "\xff\xff", "\x00\xff\x00", "\xff\x00\xff", "\xff\xff\x00", "\x00\x00\xff",
	} {
		out = append(out, []byte(w))
	}
	return out
}

// pair: data, and a text that is looked for in it.
type pair struct{ d, p []byte }

// texts: texts that are near to what stands in the data: its parts, these with a byte more at the end, or at the front.
func texts(d []byte) [][]byte {
	out := [][]byte{nil, {}, {0}, {255}, {'x'}, []byte("xyz"), {0, 0, 0}, {255, 255, 255}, slices.Concat(d, d), slices.Concat([]byte("x"), d)}
	for at := range d {
		for end := at; end <= len(d); end++ {
			part := d[at:end:end]
			out = append(out, part, append(part, 0), append(part, 255), append(part, 'x'), append(part, d[0]))
			if end < len(d) {
				out = append(out, append(part, d[end]+1), append(part, d[end]-1))
			}
		}
	}
	return out
}

// pairs: the data and texts that are held against the chapter's words: all short ones of small alphabets, the near ones, and drawn ones.
func pairs() []pair {
	var out []pair
	cross := func(data, texts [][]byte) {
		for _, d := range data {
			for _, p := range texts {
				out = append(out, pair{d, p})
			}
		}
	}
	cross(short(6, 2), short(5, 2))
	cross(short(3, 3), short(4, 3))
	cross(words(), words())
	for _, d := range words() {
		cross([][]byte{d}, texts(d))
	}
	for n := range 8 {
		for _, s := range shapes(n) {
			cross([][]byte{s.data}, texts(s.data))
		}
	}
	return append(out, drawn(300, 40)...)
}

// drawn: pairs of so many bytes at most: of the same letters, with a part in common, and with letters that do not stand in the data.
func drawn(count, most int) []pair {
	r := rolls(14)
	var out []pair
	for range count {
		k := 1 + r.below(5)
		d, p := r.data(r.below(most), k), r.copied(r.below(most), k)
		out = append(out, pair{d, p}, pair{p, d}, pair{d, d}, pair{d, r.data(r.below(most), 7)})
		if len(d) > 0 {
			from := r.below(len(d))
			part := d[from : from+r.below(len(d)-from)+1]
			at := r.below(len(p) + 1)
			out = append(out, pair{d, slices.Insert(slices.Clone(p), at, part...)})
		}
	}
	return out
}
