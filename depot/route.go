package depot

import "sapper/api"

// way is one over kept patches: how many bytes these have, and over how many images it leads. No images: there is none.
type way struct {
	bytes, images int
}

// better: is w there, and ahead of x?
func (w way) better(x way) bool {
	if w.images == 0 || x.images == 0 {
		return w.images > x.images
	}
	return w.bytes < x.bytes || w.bytes == x.bytes && w.images < x.images
}

// web is how many bytes the patch from one image to another one has, both told by their places among the names; 0: none is kept, since each patch has bytes.
type web [][]int

// newWeb: that of these patches.
func newWeb(names []api.Key, patches map[api.Ask]*patch) web {
	out := make(web, len(names))
	for i, from := range names {
		out[i] = make([]int, len(names))
		for j, to := range names {
			if p := patches[api.Ask{From: from, To: to}]; p != nil {
				out[i][j] = len(p.bytes())
			}
		}
	}
	return out
}

// through: from one image to the next one, and from there on by the way w.
func (l web) through(from, next int, w way) way {
	if l[from][next] == 0 || w.images == 0 {
		return way{}
	}
	return way{bytes: l[from][next] + w.bytes, images: 1 + w.images}
}

// best: the best way from each image to the last one. None goes through an image twice, since that would be longer.
func (l web) best(to int) []way {
	out := make([]way, len(l))
	out[to].images = 1
	for found := true; found; {
		found = false
		for from := range l {
			for next := range l {
				if w := l.through(from, next, out[next]); w.better(out[from]) {
					out[from], found = w, true
				}
			}
		}
	}
	return out
}

// behind: the image behind this one on its best way. Where ways are as good, the first one by its name: all of them have as many images, so that one is ahead of the others wherever they part.
func (l web) behind(from int, best []way) int {
	next := 0
	for l.through(from, next, best[next]) != best[from] {
		next++
	}
	return next
}

// route: the best way between two of these images, told by their places, and how many bytes its patches have.
func route(names []api.Key, patches map[api.Ask]*patch, from, to int) ([]api.Key, int, api.Errno) {
	l := newWeb(names, patches)
	best := l.best(to)
	if best[from].images == 0 {
		return nil, 0, api.ErrDepotRoute
	}
	out := []api.Key{names[from]}
	for at := from; at != to; {
		at = l.behind(at, best)
		out = append(out, names[at])
	}
	return out, best[from].bytes, api.OK
}
