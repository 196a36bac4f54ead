package edit

import (
	"iter"

	"sapper/api"
)

// writer lays bytes down, by their origins, in as few steps as can be.
type writer struct {
	edit  api.Edit // its steps without the one at hand
	step  api.Step // the one at hand
	place int      // in the old image, behind what the step at hand adds to
}

// normal: the edit whose bytes have these origins.
func normal(all iter.Seq[origin]) (out api.Edit, err api.Errno) {
	defer func() {
		if why := recover(); why != nil {
			out, err = api.Edit{}, why.(api.Errno)
		}
	}()
	var w writer
	for o := range all {
		w.take(o)
	}
	return w.end(), api.OK
}

// take: one byte more. A step adds ahead of copying, so that behind a copy another one must add, even where the place is right.
func (w *writer) take(o origin) {
	if o.own {
		w.step.Copy++
		w.edit.Extra = append(w.edit.Extra, o.value)
		return
	}
	if o.at != w.place || w.step.Copy > 0 {
		w.seek(o.at)
	}
	w.step.Add++
	w.place++
	w.edit.Diff = append(w.edit.Diff, o.value)
}

// seek: the step at hand ends, and leads to a place. All is given up, if that is too far.
func (w *writer) seek(to int) {
	w.step.Seek = to - w.place
	if !mayBe(w.step) {
		panic(api.ErrEditStep)
	}
	w.edit.Steps = append(w.edit.Steps, w.step)
	w.step, w.place = api.Step{}, to
}

// end: the last step leads nowhere; it is left out, if there was no byte.
func (w *writer) end() api.Edit {
	if w.step != (api.Step{}) {
		w.edit.Steps = append(w.edit.Steps, w.step)
	}
	return w.edit
}
