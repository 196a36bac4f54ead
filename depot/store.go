package depot

import (
	"bytes"
	"cmp"
	"maps"
	"slices"
	"sync"

	"sapper/api"
)

// store has the images by their names, and the patches between them by the asks. Each of its calls holds the lock just once: that is the moment at which it is done.
type store struct {
	options api.Options
	lock    sync.Mutex // guards both maps; an image's bytes stay as they are
	images  map[api.Key][]byte
	patches map[api.Ask]*patch
}

// add: an image by its name.
func (s *store) add(k api.Key, image []byte) api.Errno {
	s.lock.Lock()
	defer s.lock.Unlock()
	old, there := s.images[k]
	switch {
	case there && !bytes.Equal(old, image):
		return api.ErrDepotClash
	case there:
		return api.OK
	case len(s.images) >= api.MaxHeld:
		return api.ErrDepotMany
	}
	s.images[k] = slices.Clone(image)
	return api.OK
}

// drop: an image goes, and the patches that hang on it. Whoever waits for one of these has asked ahead, and gets it.
func (s *store) drop(k api.Key) api.Errno {
	s.lock.Lock()
	defer s.lock.Unlock()
	if _, there := s.images[k]; !there {
		return api.ErrDepotImage
	}
	delete(s.images, k)
	maps.DeleteFunc(s.patches, func(a api.Ask, _ *patch) bool { return a.From == k || a.To == k })
	return api.OK
}

// image: a copy of the bytes of one.
func (s *store) image(k api.Key) ([]byte, api.Errno) {
	s.lock.Lock()
	defer s.lock.Unlock()
	b, there := s.images[k]
	if !there {
		return nil, api.ErrDepotImage
	}
	return slices.Clone(b), api.OK
}

// find: the patch of each ask, none where an image is not kept, and those of them that nobody has asked for so far.
func (s *store) find(asks ...api.Ask) (all, fresh []*patch) {
	s.lock.Lock()
	defer s.lock.Unlock()
	for _, a := range asks {
		old, fromKept := s.images[a.From]
		next, toKept := s.images[a.To]
		p := s.patches[a]
		if fromKept && toKept && p == nil {
			p = &patch{old: old, next: next, options: s.options}
			s.patches[a] = p
			fresh = append(fresh, p)
		}
		all = append(all, p)
	}
	return all, fresh
}

// kept: the images' names in their order, and the patches.
func (s *store) kept() ([]api.Key, map[api.Ask]*patch) {
	s.lock.Lock()
	defer s.lock.Unlock()
	return slices.SortedFunc(maps.Keys(s.images), order), maps.Clone(s.patches)
}

// order: which of two names stands ahead.
func order(a, b api.Key) int {
	return cmp.Or(cmp.Compare(a.Size, b.Size), cmp.Compare(a.Sum, b.Sum), bytes.Compare(a.Ends[:], b.Ends[:]))
}
