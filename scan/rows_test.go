package scan_test

import (
	"bytes"
	"slices"
)

// rolls: numbers that follow no pattern and are the same at each run.
type rolls uint64

// below: a number from 0 on, below n.
func (r *rolls) below(n int) int {
	*r = *r*6364136223846793005 + 1442695040888963407
	return int(uint64(*r>>33) % uint64(n))
}

// letter: one of k bytes, 0 and 255 among them where there are two or more.
func letter(i, k int) byte {
	if k < 2 {
		return 'a'
	}
	return byte(i * 255 / (k - 1))
}

// data: n bytes of k letters.
func (r *rolls) data(n, k int) []byte {
	out := make([]byte, n)
	for i := range out {
		out[i] = letter(r.below(k), k)
	}
	return out
}

// copied: n bytes of k letters, of which many are copies of those ahead.
func (r *rolls) copied(n, k int) []byte {
	out := r.data(min(n, 3), k)
	for len(out) < n {
		if r.below(4) == 0 {
			out = append(out, letter(r.below(k), k))
			continue
		}
		dist := 1 + r.below(len(out))
		for range 1 + r.below(20) {
			out = append(out, out[len(out)-dist])
		}
	}
	return out[:n]
}

// edited: bytes that are made of parts of old, of at most so many bytes each, some with single bytes changed, and of bytes between them.
func (r *rolls) edited(old []byte, parts, most, k int) []byte {
	var out []byte
	for range parts {
		from := r.below(len(old) + 1)
		part := slices.Clone(old[from:min(len(old), from+r.below(most+1))])
		if step := 2 + r.below(12); r.below(3) > 0 {
			for i := r.below(step); i < len(part); i += 1 + r.below(step) {
				part[i] = letter(r.below(k), k)
			}
		}
		out = append(out, part...)
		if r.below(2) > 0 {
			out = append(out, r.data(r.below(6), k)...)
		}
	}
	return out
}

// counted: n bytes, each of its place.
func counted(n int, of func(i int) int) []byte {
	out := make([]byte, n)
	for i := range out {
		out[i] = byte(of(i))
	}
	return out
}

// short: all data of at most n bytes of k letters.
func short(n, k int) [][]byte {
	out := [][]byte{nil}
	for from := 0; n > 0; n-- {
		to := len(out)
		for _, d := range out[from:to] {
			for v := range k {
				out = append(out, append(slices.Clone(d), letter(v, k)))
			}
		}
		from = to
	}
	return out
}

// spelt: all rows of at most n of these parts.
func spelt(n int, parts ...string) [][]byte {
	var out [][]byte
	for _, row := range short(n, len(parts)) {
		var d []byte
		for _, v := range row {
			for i, part := range parts {
				if letter(i, len(parts)) == v {
					d = append(d, part...)
				}
			}
		}
		out = append(out, d)
	}
	return out
}

// golden: each a becomes ab, each b becomes a: data without a period.
func golden(n int) []byte {
	a, b := []byte("a"), []byte("ab")
	for len(b) < n {
		a, b = b, slices.Concat(b, a)
	}
	return b[:n]
}

// parity: whether each place has an odd number of bits.
func parity(n int) []byte {
	out := make([]byte, n)
	for i := range out {
		if i > 0 {
			out[i] = out[i/2] ^ byte(i&1)
		}
	}
	return out
}

// shape: data, and what it is like.
type shape struct {
	name string
	data []byte
}

// shapes: data of n bytes that follow a rule.
func shapes(n int) []shape {
	r := rolls(n)
	return []shape{
		{"alike, of 0", make([]byte, n)},
		{"alike, of 255", bytes.Repeat([]byte{255}, n)},
		{"rising", counted(n, func(i int) int { return i * 255 / max(1, n-1) })},
		{"falling", counted(n, func(i int) int { return 255 - i*255/max(1, n-1) })},
		{"by turns", counted(n, func(i int) int { return i % 2 * 255 })},
		{"period of three", counted(n, func(i int) int { return i % 3 })},
		{"period of seven", counted(n, func(i int) int { return i * i % 7 })},
		{"period of 256", counted(n, func(i int) int { return i })},
		{"alike, the last more", counted(n, func(i int) int { return (i + 1) / n })},
		{"alike, one less", counted(n, func(i int) int { return min(1, max(i-n/2, n/2-i)) })},
		{"alike, two less", counted(n, func(i int) int { return min(1, max(i-n/2, n/2-i), max(i-n+3, n-3-i)) })},
		{"alike, the first more", counted(n, func(i int) int { return 1 - min(1, i) })},
		{"up and down", counted(n, func(i int) int { return min(i, n-1-i, 255) })},
		{"two halves alike", counted(n, func(i int) int { return i % max(1, n/2) * 7919 % 13 })},
		{"golden", golden(n)},
		{"parity", parity(n)},
		{"two letters", r.data(n, 2)},
		{"bytes", r.data(n, 256)},
		{"copies", r.copied(n, 3)},
		{"copies of bytes", r.copied(n, 256)},
	}
}

// afters: what may follow upon an old image: itself, with single bytes changed, in another order, doubled, with parts left out and put in, turned, and unlike ones.
func afters(d []byte) []shape {
	n := len(d)
	r := rolls(n)
	changed, many, turned := slices.Clone(d), slices.Clone(d), slices.Clone(d)
	for i := n / 5; i < n; i += 1 + n/5 {
		changed[i]++
	}
	for i := 0; i < n; i += 1 + i%7 {
		many[i]++
	}
	slices.Reverse(turned)
	return []shape{
		{"itself", d},
		{"changed", changed},
		{"changed at many places", many},
		{"moved", slices.Concat(d[n/3:], d[:n/2])},
		{"doubled", slices.Concat(d, d)},
		{"a part left out", slices.Concat(d[:n/3], d[n/2:])},
		{"a part put in", slices.Concat(d[:n/3], r.data(n/9, 256), d[n/3:])},
		{"turned", turned},
		{"by turns", counted(n, func(i int) int { return i % 2 })},
		{"alike", bytes.Repeat(d[:min(1, n)], n)},
		{"edited", r.edited(d, 12, n/10, 256)},
	}
}

// words: data that the chapter, or the tests, speak of.
func words() [][]byte {
	var out [][]byte
	for _, w := range []string{
		"", "a", "ab", "ba", "abc", "xxabc", "yyabc", "aabb", "abab", "abcdef", "abxdyy", "banana", "mississippi",
		"abcdefgh", "abcdefghi", "abcdefghij", "ijabcdefgh", "abcdefghijabcdefghij", "0123456789abcdefghij", "abcdefghij0123456789",
		"aaaaaaaaaa", "aaaaaaaaaaaaaaaaaaaaab", "abababababababababab", "\x00", "\xff", "\x00\xff\x00", "\xff\xff\x00",
	} {
		out = append(out, []byte(w))
	}
	return out
}

// pair: an old image and a new one.
type pair struct{ old, next []byte }

// cross: each of the old ones with each of the new ones.
func cross(old, next [][]byte) []pair {
	var out []pair
	for _, o := range old {
		for _, n := range next {
			out = append(out, pair{o, n})
		}
	}
	return out
}

// pairs: the images that are held against the chapter's words: all short ones of small alphabets, all rows of a few long parts, those of a rule and what may follow upon them, and drawn ones.
func pairs() []pair {
	out := slices.Concat(
		cross(short(5, 2), short(6, 2)), cross(short(3, 3), short(4, 3)), cross(words(), words()),
		cross(spelt(3, "abcdefgh", "01234567", "x"), spelt(4, "abcdefgh", "01234567", "x")),
		cross(spelt(3, "abcdefghi", "012345678", "xy"), spelt(4, "abcdefghi", "012345678", "z")),
		cross(spelt(3, "abcdefghij", "012345abcd", "ghij0"), spelt(4, "abcdefghij", "012345abcd", "hij01")),
		cross(spelt(3, "aaaaaaaaab", "aaaaabaaaa", "baaaaa"), spelt(4, "aaaaaaaaab", "aaaaaaaaaa", "baaaaa")),
	)
	for _, n := range []int{1, 8, 9, 10, 17, 40, 200} {
		for _, s := range shapes(n) {
			for _, o := range afters(s.data) {
				out = append(out, pair{s.data, o.data})
			}
		}
	}
	return append(out, drawn(400)...)
}

// drawn: pairs that share long parts.
func drawn(count int) []pair {
	r := rolls(15)
	var out []pair
	for range count {
		for _, k := range []int{2, 3, 5, 256} {
			d, p := r.data(r.below(150), k), r.copied(r.below(150), k)
			out = append(out, pair{d, r.edited(d, 1+r.below(6), 60, k)}, pair{p, r.edited(p, 1+r.below(6), 60, k)}, pair{d, slices.Concat(p, d)})
		}
	}
	return out
}
