package edit

import (
	"iter"

	"sapper/api"
)

// within: from some number on, up to how many bytes an image may have.
func within(least, n int) bool { return least <= n && n <= api.MaxImage }

// mayBe: may there be such a step?
func mayBe(s api.Step) bool {
	return within(0, s.Add) && within(0, s.Copy) && within(-api.MaxImage, s.Seek)
}

// sums: of all Adds, and of all Copies. No number is summed up unless its step may be: so none of the sums wraps.
func sums(steps []api.Step) (int, int, api.Errno) {
	added, copied := 0, 0
	for _, s := range steps {
		if !mayBe(s) {
			return 0, 0, api.ErrEditStep
		}
		added += s.Add
		copied += s.Copy
	}
	return added, copied, api.OK
}

// walk tells each step with the place in the old image at which it begins.
func walk(steps []api.Step) iter.Seq2[int, api.Step] {
	return func(yield func(int, api.Step) bool) {
		place := 0
		for _, s := range steps {
			if !yield(place, s) {
				return
			}
			place += s.Add + s.Seek
		}
	}
}

// span: the least place that is read, 0 if none is less, and the one behind the greatest. A step that adds nothing reads nothing, wherever it begins.
func span(steps []api.Step) (int, int) {
	first, end := 0, 0
	for place, s := range walk(steps) {
		if s.Add > 0 {
			first, end = min(first, place), max(end, place+s.Add)
		}
	}
	return first, end
}

// outside: do the steps read outside of so many old bytes?
func outside(steps []api.Step, old int) bool {
	first, end := span(steps)
	return first < 0 || end > old
}

// sizeOver: how many bytes an edit makes of old; or why it can't be applied.
func sizeOver(old []byte, e api.Edit) (int, api.Errno) {
	if len(old) > api.MaxImage {
		return 0, api.ErrArg
	}
	size, err := Size(e)
	if err == api.OK && outside(e.Steps, len(old)) {
		return 0, api.ErrEditRead
	}
	return size, err
}
