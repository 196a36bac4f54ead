package scan_test

import (
	"bytes"

	"sapper/api"
	"sapper/find"
	"sapper/scan"
	"sapper/suffix"
)

// The chapter's words, taken literally: S, F and B are counted anew for each number, and texts are looked for from the front on.

// sameOf: how many of the n bytes of a from i on are the same as those of b from k on, place by place.
func sameOf(a []byte, i int, b []byte, k, n int) int {
	out := 0
	for j := range n {
		if a[i+j] == b[k+j] {
			out++
		}
	}
	return out
}

// leastOf: of the numbers from 0 to most the least one whose score is greatest.
func leastOf(most int, score func(n int) int) int {
	out := 0
	for n := range most + 1 {
		if score(n) > score(out) {
			out = n
		}
	}
	return out
}

// placesOf: is pos 0 to len(old), and 0 <= from <= to <= len(next)?
func placesOf(old []byte, pos int, next []byte, from, to int) bool {
	return pos >= 0 && pos <= len(old) && from >= 0 && from <= to && to <= len(next)
}

// paysOf: 2 S(n) - n of Forward.
func paysOf(old []byte, pos int, next []byte, from, n int) int {
	return 2*sameOf(old, pos, next, from, n) - n
}

// forwardOf: P15.1.
func forwardOf(old []byte, pos int, next []byte, from, to int) int {
	if !placesOf(old, pos, next, from, to) {
		return 0
	}
	most := 0
	for from+most < to && pos+most < len(old) {
		most++
	}
	return leastOf(most, func(n int) int { return paysOf(old, pos, next, from, n) })
}

// backwardOf: P15.2.
func backwardOf(old []byte, pos int, next []byte, from, to int) int {
	if !placesOf(old, pos, next, from, to) {
		return 0
	}
	most := 0
	for from+most < to && most < pos {
		most++
	}
	return leastOf(most, func(n int) int { return paysOf(old, pos-n, next, to-n, n) })
}

// splitOf: P15.3.
func splitOf(old []byte, pos, back int, next []byte, at, n int) int {
	if n < 0 || n > len(old) || n > len(next) {
		return 0
	}
	if pos < 0 || pos > len(old)-n || back < 0 || back > len(old)-n || at < 0 || at > len(next)-n {
		return 0
	}
	return leastOf(n, func(k int) int { return sameOf(old, pos, next, at, k) - sameOf(old, back, next, at, k) })
}

// longestOf: the longest beginning of p that stands anywhere in d: its least place, and how many bytes.
func longestOf(d, p []byte) (int, int) {
	at, m := 0, 0
	for m < len(p) {
		i := bytes.Index(d, p[:m+1])
		if i < 0 {
			break
		}
		at, m = i, m+1
	}
	return at, m
}

// calls: what the steps are found by, and who is told what comes up.
type calls struct {
	longest           func(at int) int            // how many bytes of next, from there on, stand anywhere in old
	place             func(at, n int) int         // and the least place of so many
	forward, backward func(pos, from, to int) int // of old and next
	split             func(pos, back, at, n int) int
	tell              func(kind string)
}

// literal: by the chapter's words.
func literal(old, next []byte, tell func(kind string)) calls {
	return calls{
		longest: func(at int) int {
			_, n := longestOf(old, next[at:])
			return n
		},
		place: func(at, n int) int {
			i, _ := longestOf(old, next[at:at+n])
			return i
		},
		forward:  func(pos, from, to int) int { return forwardOf(old, pos, next, from, to) },
		backward: func(pos, from, to int) int { return backwardOf(old, pos, next, from, to) },
		split:    func(pos, back, at, n int) int { return splitOf(old, pos, back, next, at, n) },
		tell:     tell,
	}
}

// fast: by the calls of the packages, which are held against the chapters' words elsewhere.
func fast(x *suffix.Index, old, next []byte) calls {
	all, _ := find.Statistics(x, next)
	return calls{
		longest: func(at int) int { return all[at] },
		place: func(at, n int) int {
			if n == 0 {
				return 0
			}
			return bytes.Index(old, next[at:at+n])
		},
		forward:  func(pos, from, to int) int { return scan.Forward(old, pos, next, from, to) },
		backward: func(pos, from, to int) int { return scan.Backward(old, pos, next, from, to) },
		split:    func(pos, back, at, n int) int { return scan.Split(old, pos, back, next, at, n) },
		tell:     func(string) {},
	}
}

// stepsOf: P15.4, word by word. (Of POS nothing is asked ahead of part 3.)
func stepsOf(old, next []byte, c calls) []api.Step {
	var out []api.Step
	var DONE, BASE, SHIFT, AT, N int
	same := func(place int) bool {
		i := place + SHIFT
		if i < 0 {
			c.tell("below 0")
		}
		if i >= len(old) {
			c.tell("beyond old")
		}
		return i >= 0 && i < len(old) && old[i] == next[place]
	}
	for AT < len(next) {
		AT += N
		SCORE, MARK := 0, AT
		for AT < len(next) {
			N = c.longest(AT)
			for MARK < AT+N {
				if same(MARK) {
					SCORE++
				}
				MARK++
			}
			tellScore(c, N, SCORE)
			if N == SCORE && N != 0 || N > SCORE+8 {
				break
			}
			if same(AT) {
				SCORE--
				c.tell("SCORE falls")
			}
			AT++
		}
		if N == SCORE && AT != len(next) {
			continue
		}
		POS, F, B := 0, c.forward(BASE, DONE, AT), 0
		if AT != len(next) {
			POS = c.place(AT, N)
			B = c.backward(POS, DONE, AT)
		}
		if DONE+F > AT-B {
			O := DONE + F - (AT - B)
			K := c.split(BASE+F-O, POS-B, DONE+F-O, O)
			tellSplit(c, K, O)
			F += K - O
			B -= K
		}
		step := api.Step{Add: F, Copy: (AT - B) - (DONE + F), Seek: (POS - B) - (BASE + F)}
		if AT == len(next) {
			step.Seek = 0
		}
		out = append(out, step)
		DONE, BASE, SHIFT = AT-B, POS-B, POS-AT
	}
	return out
}

// tellScore: how N stands to SCORE.
func tellScore(c calls, n, score int) {
	switch {
	case n == 0:
		c.tell("N is 0")
	case n == score:
		c.tell("N is SCORE")
	case n < score:
		c.tell("N is less than SCORE")
	case n < score+8:
		c.tell("N is less than SCORE + 8")
	case n == score+8:
		c.tell("N is SCORE + 8")
	case n == score+9:
		c.tell("N is SCORE + 9")
	default:
		c.tell("N is more than SCORE + 9")
	}
}

// tellSplit: how two that overlap were parted.
func tellSplit(c calls, k, o int) {
	switch {
	case k > o:
		c.tell("F grows")
	case k == o:
		c.tell("F stays")
	case k == 0:
		c.tell("F falls by all")
	default:
		c.tell("F falls by some")
	}
}
