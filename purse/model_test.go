package purse_test

import (
	"slices"

	"sapper/api"
	"sapper/purse"
)

// purser: the calls of the chapter's list. The program has them, and so has the model.
type purser interface {
	Open(name string, most int) api.Errno
	Hold(name string, n int) api.Errno
	Held() int
	Peak() int
	Most() int
	Names() []string
}

var _ purser = (*purse.Purse)(nil)

// modelHolder: one holder of a model.
type modelHolder struct {
	name string
	most int
	held int
}

// model: a purse by the chapter's words, taken literally: the holders in a row as they were opened, and what they held in all behind each call.
type model struct {
	holders []modelHolder
	moments []int
}

// where: the place of the holder with that name; -1, if there is none.
func (m *model) where(name string) int {
	for i, h := range m.holders {
		if h.name == name {
			return i
		}
	}
	return -1
}

// Open: P23.1.
func (m *model) Open(name string, most int) api.Errno {
	if most < 0 || most > 1099511627776 || len(m.holders) == 1024 {
		return api.ErrArg
	}
	if m.where(name) >= 0 {
		return api.ErrPurseName
	}
	m.holders = append(m.holders, modelHolder{name: name, most: most})
	m.moments = append(m.moments, m.Held())
	return api.OK
}

// Hold: P23.1.
func (m *model) Hold(name string, n int) api.Errno {
	at := m.where(name)
	if at < 0 {
		return api.ErrPurseName
	}
	if n < 0 || n > m.holders[at].most {
		return api.ErrArg
	}
	m.holders[at].held = n
	m.moments = append(m.moments, m.Held())
	return api.OK
}

// Held: P23.2.
func (m *model) Held() int {
	out := 0
	for _, h := range m.holders {
		out += h.held
	}
	return out
}

// Peak: P23.2.
func (m *model) Peak() int {
	out := 0
	for _, n := range m.moments {
		if n > out {
			out = n
		}
	}
	return out
}

// Most: P23.2.
func (m *model) Most() int {
	out := 0
	for _, h := range m.holders {
		out += h.most
	}
	return out
}

// Names: P23.2: each goes in ahead of the first one that is greater.
func (m *model) Names() []string {
	var out []string
	for _, h := range m.holders {
		at := 0
		for at < len(out) && less(out[at], h.name) {
			at++
		}
		out = slices.Insert(out, at, h.name)
	}
	return out
}

// less: byte by byte; of two of which one is the beginning of the other one, the shorter.
func less(a, b string) bool {
	for i := 0; i < len(a) && i < len(b); i++ {
		if a[i] != b[i] {
			return a[i] < b[i]
		}
	}
	return len(a) < len(b)
}
