package device_test

import (
	"hash/crc32"

	"sapper/api"
	"sapper/apply"
	"sapper/boot"
	"sapper/flash"
)

// model is a device by the chapter's words, taken literally.
type model struct {
	f      *flash.Flash // none: no call made it
	runs   *api.Image
	update *apply.Applier
}

// modelNew: P26.1.
func modelNew(s api.Shape, image []byte, version int) (*model, api.Errno) {
	f, err := flash.New(s, 0, [2][]byte{image, nil})
	if err != api.OK {
		return nil, err
	}
	r, err := boot.First(api.Image{Slot: 0, Version: version, Size: len(image), Sum: crc32.ChecksumIEEE(image)})
	if err != api.OK {
		return nil, api.ErrBootRecord
	}
	if _, err := boot.Write(f, r); err != api.OK {
		return nil, err
	}
	return &model{f: f}, api.OK
}

// modelLoad: P26.12.
func modelLoad(b []byte) (*model, api.Errno) {
	f, err := flash.Load(b)
	if err != api.OK {
		return nil, err
	}
	return &model{f: f}, api.OK
}

// look: as soon as the flash has no power, none runs, and no update is under way.
func (m *model) look() {
	if !m.f.On() {
		m.runs, m.update = nil, nil
	}
}

// holds: does an image?
func (m *model) holds(i api.Image) bool {
	slot := m.f.Shape().Page * m.f.Shape().Pages
	if i.Slot < 0 || i.Slot > 1 || i.Size < 0 || i.Size > slot {
		return false
	}
	b, err := m.f.Read(i.Slot, 0, slot)
	return err == api.OK && crc32.ChecksumIEEE(b[:i.Size]) == i.Sum
}

// Start: P26.2.
func (m *model) Start() (api.Image, api.Errno) {
	if m.f == nil {
		return api.Image{}, api.ErrMade
	}
	if !m.f.On() {
		return api.Image{}, api.ErrFlashPower
	}
	m.runs, m.update = nil, nil
	r, _, err := boot.Read(m.f)
	if err != api.OK {
		return api.Image{}, err
	}
	then, i, err := boot.Start(r)
	if err != api.OK {
		return api.Image{}, err
	}
	if r.Next != (api.Image{}) && i == r.Next && !m.holds(i) {
		then, i = api.Record{Seq: r.Seq, Good: r.Good}, r.Good
	}
	if i == r.Good && !m.holds(i) {
		return api.Image{}, api.ErrDeviceImage
	}
	if then.Good != r.Good || then.Next != r.Next || then.Trial != r.Trial {
		if _, err := boot.Write(m.f, then); err != api.OK {
			return api.Image{}, err
		}
	}
	if m.f.Active() != i.Slot {
		if err := m.f.Turn(); err != api.OK {
			return api.Image{}, err
		}
	}
	m.runs = &i
	return i, api.OK
}

// Begin: P26.3.
func (m *model) Begin(window, look int) api.Errno {
	if m.f == nil {
		return api.ErrMade
	}
	if m.runs == nil {
		return api.ErrDevicePhase
	}
	r, _, err := boot.Read(m.f)
	if err != api.OK {
		return err
	}
	if *m.runs != r.Good {
		return api.ErrDevicePhase
	}
	if window < 64 || window > 65536 || look < 1 || look > 32768 {
		return api.ErrApplySize
	}
	if r.Next != (api.Image{}) {
		if _, err := boot.Write(m.f, api.Record{Good: r.Good}); err != api.OK {
			return err
		}
	}
	m.update, err = apply.New(m.f, window, look)
	return err
}

// Feed: P26.4.
func (m *model) Feed(b []byte) api.Errno {
	if m.f == nil {
		return api.ErrMade
	}
	if m.update == nil {
		return api.ErrDevicePhase
	}
	return m.update.Feed(b)
}

// Finish: P26.5.
func (m *model) Finish(version, tries int) (api.Record, api.Errno) {
	if m.f == nil {
		return api.Record{}, api.ErrMade
	}
	if m.update == nil {
		return api.Record{}, api.ErrDevicePhase
	}
	if !m.update.Committed() {
		if err := m.update.Finish(); err != api.OK {
			return api.Record{}, err
		}
	}
	r, _, err := boot.Read(m.f)
	if err != api.OK {
		return api.Record{}, err
	}
	h, _ := m.update.Head()
	slot := 0
	if m.f.Active() == 0 {
		slot = 1
	}
	r, err = boot.Offer(r, api.Image{Slot: slot, Version: version, Size: h.New, Sum: h.NewSum}, tries)
	if err != api.OK {
		return api.Record{}, err
	}
	r, err = boot.Write(m.f, r)
	if err != api.OK {
		return api.Record{}, err
	}
	m.update = nil
	return r, api.OK
}

// Confirm: P26.6.
func (m *model) Confirm() (api.Record, api.Errno) {
	if m.f == nil {
		return api.Record{}, api.ErrMade
	}
	if m.runs == nil {
		return api.Record{}, api.ErrDevicePhase
	}
	r, _, err := boot.Read(m.f)
	if err != api.OK {
		return api.Record{}, err
	}
	if *m.runs != r.Next {
		return api.Record{}, api.ErrDevicePhase
	}
	r, err = boot.Confirm(r)
	if err != api.OK {
		return api.Record{}, err
	}
	return boot.Write(m.f, r)
}

// P26.7 and P26.12.

func (m *model) Cut(n int, torn []byte) api.Errno { return m.f.Cut(n, torn) }
func (m *model) Power()                           { m.f.Power() }
func (m *model) On() bool                         { return m.f.On() }
func (m *model) Log() []api.Op                    { return m.f.Log() }
func (m *model) Save() ([]byte, api.Errno)        { return m.f.Save() }

func (m *model) Running() (api.Image, bool) {
	if m.runs == nil {
		return api.Image{}, false
	}
	return *m.runs, true
}

func (m *model) Updating() (api.Head, bool) {
	if m.update == nil {
		return api.Head{}, false
	}
	h, _ := m.update.Head()
	return h, true
}

func (m *model) Record() (api.Record, api.Errno) {
	r, _, err := boot.Read(m.f)
	return r, err
}

func (m *model) Image(i api.Image) ([]byte, api.Errno) {
	if m.f == nil {
		return nil, api.ErrMade
	}
	if !m.f.On() {
		return nil, api.ErrFlashPower
	}
	if !m.holds(i) {
		return nil, api.ErrDeviceImage
	}
	return m.f.Read(i.Slot, 0, i.Size)
}

func (m *model) Held() int {
	if m.update == nil {
		return 0
	}
	return m.update.Held()
}
