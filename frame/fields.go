package frame

import (
	"sapper/api"
	"sapper/cutter"
	"sapper/num"
)

// What a stream may have beyond nothing: so many bytes for each raw one, and some more.
const (
	packedTimes = 4
	packedMore  = 64
)

// field is one of the numbers of a header, or of a window's sizes.
type field[T any] struct {
	at  func(*T) *int       // where it stands
	may func(*T) (int, int) // the least and the most that it may be; of the fields, just those ahead of it are asked, which may be
}

// between: what a number may be, whatever stands ahead of it.
func between[T any](least, most int) func(*T) (int, int) {
	return func(*T) (int, int) { return least, most }
}

// headFields: a header's numbers, in their order.
func headFields() []field[api.Head] {
	return []field[api.Head]{
		{func(h *api.Head) *int { return &h.Old }, between[api.Head](0, api.MaxImage)},
		{func(h *api.Head) *int { return &h.New }, between[api.Head](0, api.MaxImage)},
		{func(h *api.Head) *int { return &h.Window }, between[api.Head](api.MinWindow, api.MaxWindow)},
		{func(h *api.Head) *int { return &h.Look }, between[api.Head](1, api.MaxLook)},
	}
}

// sizesFields: the numbers of the i-th window's sizes, in their order. The header may be, and has that window.
func sizesFields(h api.Head, i int) []field[api.Sizes] {
	size := Size(h, i)
	return []field[api.Sizes]{
		{func(s *api.Sizes) *int { return &s.Pos }, between[api.Sizes](0, h.Old)},
		{func(s *api.Sizes) *int { return &s.Raw[0] }, between[api.Sizes](1, cutter.Most(h.Window))},
		{func(s *api.Sizes) *int { return &s.Raw[1] }, between[api.Sizes](0, size)},
		{func(s *api.Sizes) *int { return &s.Raw[2] }, func(s *api.Sizes) (int, int) { return size - s.Raw[1], size - s.Raw[1] }},
		packedField(0),
		packedField(1),
		packedField(2),
	}
}

// packedField: how many bytes the k-th stream has.
func packedField(k int) field[api.Sizes] {
	return field[api.Sizes]{
		at: func(s *api.Sizes) *int { return &s.Packed[k] },
		may: func(s *api.Sizes) (int, int) {
			if s.Raw[k] == 0 {
				return 0, 0
			}
			return 1, packedTimes*s.Raw[k] + packedMore
		},
	}
}

// fit: may all fields be as they are? From the front on, so that no number is reckoned with that may not be, and no sum wraps.
func fit[T any](l []field[T], t *T) bool {
	for _, f := range l {
		least, most := f.may(t)
		if v := *f.at(t); v < least || v > most {
			return false
		}
	}
	return true
}

// written: the shortest forms of all fields, which may be.
func written[T any](l []field[T], t *T) []byte {
	values := make([]uint64, 0, len(l))
	for _, f := range l {
		values = append(values, uint64(*f.at(t)))
	}
	return num.Encode(values...)
}

// read: all fields, each held against what it may be as soon as it is there.
func read[T any](r *reader, l []field[T]) T {
	var out T
	for _, f := range l {
		least, most := f.may(&out)
		*f.at(&out) = r.number(least, most)
	}
	return out
}
