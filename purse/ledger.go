package purse

import (
	"slices"
	"sync"

	"sapper/api"
)

// Both are so small that no sum over all holders comes near an int's end.
const (
	maxMost    = 1 << 40 // bytes that one holder may hold
	maxHolders = 1024
)

// holder is what one may hold, and what it holds.
type holder struct {
	most int
	held int
}

// ledger has the holders by their names.
type ledger struct {
	lock    sync.Mutex // guards all that stands below
	holders map[string]holder
	peak    int
}

// open: one holder more.
func (l *ledger) open(name string, most int) api.Errno {
	l.lock.Lock()
	defer l.lock.Unlock()
	if !within(most, 0, maxMost) || len(l.holders) >= maxHolders {
		return api.ErrArg
	}
	if _, there := l.holders[name]; there {
		return api.ErrPurseName
	}
	l.holders[name] = holder{most: most}
	return api.OK
}

// hold: a holder holds n bytes instead of those that it held.
func (l *ledger) hold(name string, n int) api.Errno {
	l.lock.Lock()
	defer l.lock.Unlock()
	h, there := l.holders[name]
	if !there {
		return api.ErrPurseName
	}
	if !within(n, 0, h.most) {
		return api.ErrArg
	}
	h.held = n
	l.holders[name] = h
	held, _ := l.sums()
	l.peak = max(l.peak, held)
	return api.OK
}

// tell: what all hold now, the most that this ever was, and what they may hold.
func (l *ledger) tell() (held, peak, most int) {
	l.lock.Lock()
	defer l.lock.Unlock()
	held, most = l.sums()
	return held, l.peak, most
}

// sums: what all hold, and what they may hold; the caller has the lock. In a sum the map's order has no part.
func (l *ledger) sums() (held, most int) {
	for _, h := range l.holders {
		held += h.held
		most += h.most
	}
	return held, most
}

// names: the holders' names. They are put in order, since the map has none.
func (l *ledger) names() []string {
	l.lock.Lock()
	defer l.lock.Unlock()
	out := make([]string, 0, len(l.holders))
	for name := range l.holders {
		out = append(out, name)
	}
	slices.Sort(out)
	return out
}
