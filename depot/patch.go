package depot

import (
	"slices"
	"sync"

	"sapper/api"
	"sapper/maker"
)

// patch is one that was asked for. Its bytes hang on its images and options alone: so it is kept from the ask on, and made behind it, while the depot is free for other calls.
type patch struct {
	old, next []byte
	options   api.Options
	once      sync.Once // whoever wants the bytes first makes them; the others wait
	made      []byte
}

// bytes: the patch's own; they stay as they are.
func (p *patch) bytes() []byte {
	p.once.Do(func() {
		// Never refused: the options were looked at by New, the sizes by Add.
		p.made, _ = maker.Generate(p.old, p.next, p.options)
	})
	return p.made
}

// reply: a copy of the bytes; none where there is no patch.
func (p *patch) reply() api.Reply {
	if p == nil {
		return api.Reply{Err: api.ErrDepotImage}
	}
	return api.Reply{Patch: slices.Clone(p.bytes())}
}

// makeAll: these patches made by so many goroutines, each of which takes the next one as soon as it is free.
func makeAll(workers int, l []*patch) {
	queue := make(chan *patch, len(l))
	for _, p := range l {
		queue <- p
	}
	close(queue)
	var work sync.WaitGroup
	for range workers {
		work.Go(func() {
			for p := range queue {
				p.bytes()
			}
		})
	}
	work.Wait()
}
