package device

import (
	"sapper/api"
	"sapper/apply"
	"sapper/boot"
	"sapper/crc"
	"sapper/flash"
)

// phase is what a device is doing.
type phase int

// Each phase has what those ahead of it have, and something more.
const (
	off      phase = iota // without power
	on                    // no image runs
	running               // an image runs
	updating              // and an update is under way
)

// machine is a device's parts, and how far it has come.
type machine struct {
	*flash.Flash
	*apply.Applier // none: no update is under way
	doing          phase
	image          api.Image // that runs
}

// become: it is doing that from now on; what goes with later phases is left.
func (m *machine) become(to phase) {
	m.doing = to
	if to < running {
		m.image = api.Image{}
	}
	if to < updating {
		m.Applier = nil
	}
}

// settle: where the power has gone, nothing goes on. Each call by which it may go defers this, since it may go at any place of it.
func (m *machine) settle() {
	if !m.On() {
		m.become(off)
	}
}

// power: it comes back, if it has gone; else all goes on.
func (m *machine) power() {
	m.Power()
	m.become(max(m.doing, on))
}

// stops: why it can't do what asks for that phase at the least.
func (m *machine) stops(least phase) api.Errno {
	switch {
	case m.Flash == nil:
		return api.ErrMade
	case m.doing >= least:
		return api.OK
	case least == on:
		return api.ErrFlashPower
	}
	return api.ErrDevicePhase
}

// bytes: those of an image, and whether it holds.
func (m *machine) bytes(i api.Image) ([]byte, bool) {
	if i.Slot != 0 && i.Slot != 1 {
		return nil, false
	}
	b, err := m.Read(i.Slot, 0, i.Size)
	return b, err == api.OK && crc.Sum(b) == i.Sum
}

// start: an image that holds runs, when the record that says so was written.
func (m *machine) start() (api.Image, api.Errno) {
	defer m.settle()
	if err := m.stops(on); err != api.OK {
		return api.Image{}, err
	}
	m.become(on)
	was, _, err := boot.Read(m.Flash)
	if err != api.OK {
		return api.Image{}, err
	}
	r, i, err := m.choose(was)
	if err != api.OK {
		return api.Image{}, err
	}
	if r != was {
		if _, err := boot.Write(m.Flash, r); err != api.OK {
			return api.Image{}, err
		}
	}
	if m.Active() != i.Slot {
		m.Turn()
	}
	m.become(running)
	m.image = i
	return i, api.OK
}

// choose: the record, with the Seq as it is, that is to be written ahead of a start, and the image that is started.
func (m *machine) choose(was api.Record) (api.Record, api.Image, api.Errno) {
	// It was read, so that it may be, and nothing is refused.
	r, i, _ := boot.Start(was)
	if i == was.Next {
		if _, holds := m.bytes(i); holds {
			return r, i, api.OK
		}
		r, i = alone(was), was.Good
	}
	if _, holds := m.bytes(i); !holds {
		return api.Record{}, api.Image{}, api.ErrDeviceImage
	}
	return r, i, api.OK
}

// alone: a record without what is on trial.
func alone(r api.Record) api.Record {
	r.Next, r.Trial = api.Image{}, 0
	return r
}

// begin: an update of the good image, which runs; nothing is on trial from then on.
func (m *machine) begin(window, look int) api.Errno {
	defer m.settle()
	if err := m.stops(running); err != api.OK {
		return err
	}
	r, _, err := boot.Read(m.Flash)
	if err != api.OK {
		return err
	}
	if m.image != r.Good {
		return api.ErrDevicePhase
	}
	a, err := apply.New(m.Flash, window, look)
	if err != api.OK {
		return err
	}
	if r != alone(r) {
		if _, err := boot.Write(m.Flash, alone(r)); err != api.OK {
			return err
		}
	}
	m.Applier = a
	m.become(updating)
	return api.OK
}

// feed: bytes for the update.
func (m *machine) feed(b []byte) api.Errno {
	defer m.settle()
	if err := m.stops(updating); err != api.OK {
		return err
	}
	return m.Feed(b)
}

// finish: the update's image is offered. Where that is refused, it may be offered again.
func (m *machine) finish(version, tries int) (api.Record, api.Errno) {
	defer m.settle()
	if err := m.stops(updating); err != api.OK {
		return api.Record{}, err
	}
	if !m.Committed() {
		if err := m.Finish(); err != api.OK {
			return api.Record{}, err
		}
	}
	h, _ := m.Head()
	r, err := m.amend(func(r api.Record) (api.Record, api.Errno) {
		return boot.Offer(r, api.Image{Slot: 1 - m.Active(), Version: version, Size: h.New, Sum: h.NewSum}, tries)
	})
	if err == api.OK {
		m.become(running)
	}
	return r, err
}

// confirm: the image that runs is no more on trial.
func (m *machine) confirm() (api.Record, api.Errno) {
	defer m.settle()
	if err := m.stops(running); err != api.OK {
		return api.Record{}, err
	}
	return m.amend(func(r api.Record) (api.Record, api.Errno) {
		if m.image != r.Next {
			return r, api.ErrDevicePhase
		}
		return boot.Confirm(r)
	})
}

// amend: what comes of the record is written behind it.
func (m *machine) amend(by func(r api.Record) (api.Record, api.Errno)) (api.Record, api.Errno) {
	r, _, err := boot.Read(m.Flash)
	if err == api.OK {
		r, err = by(r)
	}
	if err != api.OK {
		return api.Record{}, err
	}
	return boot.Write(m.Flash, r)
}
