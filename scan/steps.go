package scan

import "sapper/api"

// worth: by how many bytes a match must be better than going on as ahead, for a step to be made for it.
const worth = 8

// scanner goes through next, from its front on, and keeps what it has found.
type scanner struct {
	old, next  []byte
	matches    matches
	done, base int // the places in next and in old up to which steps were made
	shift      int // how far old stands ahead of next by the last match
	at         int // the place in next
	n          int // how many bytes from there on stand anywhere in old
	score      int // how many of them, by shift, old has just there
	mark       int // up to which place of next the score is reckoned
	steps      []api.Step
}

// ended: is all of next gone through?
func (s *scanner) ended() bool { return s.at == len(s.next) }

// look goes on, behind the last match, to the next one that is as good as going on by shift, or worth a step.
func (s *scanner) look() {
	s.at += s.n
	s.score, s.mark = 0, s.at
	for ; !s.ended(); s.at++ {
		s.n = s.matches.length(s.at)
		s.reckon(s.at + s.n)
		if s.n == s.score && s.n != 0 || s.n > s.score+worth {
			return
		}
		if s.same(s.at) {
			s.score--
		}
	}
}

// reckon moves the mark up to a place, and the score with it.
func (s *scanner) reckon(to int) {
	for ; s.mark < to; s.mark++ {
		if s.same(s.mark) {
			s.score++
		}
	}
}

// same: has old, by shift, the byte that next has there?
func (s *scanner) same(at int) bool {
	i := at + s.shift
	return 0 <= i && i < len(s.old) && s.old[i] == s.next[at]
}

// step makes the step that leads up to the match that was found, and in old to its place; at the end of next it leads nowhere.
func (s *scanner) step() {
	f := Forward(s.old, s.base, s.next, s.done, s.at)
	if s.ended() {
		s.steps = append(s.steps, api.Step{Add: f, Copy: s.at - (s.done + f)})
		return
	}
	pos := s.matches.place(s.at, s.n)
	b := Backward(s.old, pos, s.next, s.done, s.at)
	if over := s.done + f - (s.at - b); over > 0 {
		k := Split(s.old, s.base+f-over, pos-b, s.next, s.done+f-over, over)
		f, b = f+k-over, b-k
	}
	done, base := s.at-b, pos-b
	s.steps = append(s.steps, api.Step{Add: f, Copy: done - (s.done + f), Seek: base - (s.base + f)})
	s.done, s.base, s.shift = done, base, pos-s.at
}
