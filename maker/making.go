package maker

import "sapper/api"

// making is what is there so far of a patch that is being made, or of what one means.
type making struct {
	options   api.Options
	choices   []api.Options // if they are still to be picked
	choice    int           // the place of those that were picked
	old, next []byte
	given     [][]byte // patches that were handed in
	read      []plan   // what these say
	change    api.Edit // what the patch does
	plan
	patch []byte
}

// plan is what a patch says.
type plan struct {
	head    api.Head
	windows []api.Window
}

// part is one of making. It goes on from what is there so far, or gives up by a panic of the error.
type part func(m *making)

// run: the parts in turn, up to one that gives up.
func (m *making) run(parts []part) (err api.Errno) {
	defer func() {
		if why := recover(); why != nil {
			err = why.(api.Errno)
		}
	}()
	for _, p := range parts {
		p(m)
	}
	return api.OK
}

// must: else the making is given up.
func must(holds bool, err api.Errno) {
	if !holds {
		panic(err)
	}
}

// pass: a refusal is where the making is given up.
func pass(err api.Errno) { must(err == api.OK, err) }

// got: what a call has answered, unless it refuses.
func got[T any](answer T, err api.Errno) T {
	pass(err)
	return answer
}
