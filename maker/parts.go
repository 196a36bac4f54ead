package maker

import (
	"sapper/api"
	"sapper/crc"
	"sapper/cutter"
	"sapper/edit"
	"sapper/frame"
	"sapper/scan"
	"sapper/suffix"
)

// bounded: neither image is too large.
func bounded(m *making) {
	must(len(m.old) <= api.MaxImage && len(m.next) <= api.MaxImage, api.ErrMakeMany)
}

// allowed: the options may be.
func allowed(m *making) { pass(Options(m.options)) }

// choosable: there are options to pick from, and all of them may be.
func choosable(m *making) {
	must(len(m.choices) > 0, api.ErrArg)
	for _, o := range m.choices {
		pass(Options(o))
	}
}

// decoded: what the given patches say.
func decoded(m *making) {
	for _, b := range m.given {
		h, l, err := frame.Decode(b)
		pass(err)
		m.read = append(m.read, plan{head: h, windows: l})
	}
}

// meantFor: the given patch is for the old image.
func meantFor(m *making) {
	h := m.read[0].head
	must(len(m.old) == h.Old && crc.Sum(m.old) == h.OldSum, api.ErrMakeOld)
}

// inRow: the second of the given patches goes on from where the first one leads.
func inRow(m *making) {
	p, q := m.read[0].head, m.read[1].head
	must(q.Old == p.New && q.OldSum == p.NewSum, api.ErrMakeFit)
}

// inside: no window of the given patches reads outside of its old image.
func inside(m *making) {
	for _, p := range m.read {
		for i, w := range p.windows {
			must(cutter.Check(w, p.head.Old, frame.Size(p.head, i)) == api.OK, api.ErrMakeRead)
		}
	}
}

// meant: what the given patch makes of the old image.
func meant(m *making) {
	p := m.read[0]
	for i, w := range p.windows {
		m.next = append(m.next, got(cutter.Apply(m.old, w, frame.Size(p.head, i)))...)
	}
	must(crc.Sum(m.next) == p.head.NewSum, api.ErrMakeSum)
}

// scanned: the change from the old image to the new one.
func scanned(m *making) {
	m.head = api.Head{Old: len(m.old), New: len(m.next), OldSum: crc.Sum(m.old), NewSum: crc.Sum(m.next)}
	steps := got(scan.Steps(got(suffix.New(m.old)), m.next))
	m.change = got(edit.Make(m.old, m.next, steps...))
}

// composed: the change that the two given patches make, one behind the other.
func composed(m *making) {
	p, q := m.read[0], m.read[1]
	m.head = api.Head{Old: p.head.Old, New: q.head.New, OldSum: p.head.OldSum, NewSum: q.head.NewSum}
	m.change = got(edit.Compose(p.joined(), q.joined()))
}

// reversed: the change back from what the given patch makes.
func reversed(m *making) {
	p := m.read[0]
	m.head = api.Head{Old: p.head.New, New: p.head.Old, OldSum: p.head.NewSum, NewSum: p.head.OldSum}
	m.change = got(edit.Reverse(m.old, p.joined()))
}

// joined: the change that the windows make up.
func (p plan) joined() api.Edit { return got(cutter.Join(p.head.Window, p.windows...)) }

// cut: the change in windows, and the header whole.
func cut(m *making) {
	m.head.Window, m.head.Look = m.options.Window, m.options.Press.Look.Window
	m.windows = got(cutter.Cut(m.change, m.options.Window))
}

// written: the patch's bytes.
func written(m *making) {
	m.patch = got(frame.Encode(m.head, m.options.Press, m.windows...))
}

// shortest: of the patches by each of the choices; the first of several as short. The change is one and the same for all of them.
func shortest(m *making) {
	for i, o := range m.choices {
		one := *m
		one.options = o
		cut(&one)
		written(&one)
		if i == 0 || len(one.patch) < len(m.patch) {
			m.patch, m.choice = one.patch, i
		}
	}
}
