package boot

import (
	"slices"

	"sapper/api"
	"sapper/flash"
)

const (
	records     = 2 // the area of the records
	recordPages = 2 // pages that it has
)

// fronts: the record with which each page begins; a zero one, which may not be, where there is none.
func fronts(f *flash.Flash) ([recordPages]api.Record, api.Errno) {
	var out [recordPages]api.Record
	size := f.Shape().Page
	b, err := f.Read(records, 0, recordPages*size)
	if err != api.OK {
		return out, err
	}
	for page := range out {
		out[page], _ = Decode(b[page*size : (page+1)*size])
	}
	return out, api.OK
}

// Read: the newest record that holds, and its page.
func Read(f *flash.Flash) (api.Record, int, api.Errno) {
	l, err := fronts(f)
	if err != api.OK {
		return api.Record{}, 0, err
	}
	page := 0
	if l[1].Seq > l[0].Seq {
		page = 1
	}
	if l[page] == (api.Record{}) {
		return api.Record{}, 0, api.ErrBootNone
	}
	return l[page], page, api.OK
}

// Write: a record behind the newest one, on the other page; as it was written.
func Write(f *flash.Flash, r api.Record) (api.Record, api.Errno) {
	last, page, err := Read(f)
	switch err {
	case api.OK:
		page = 1 - page
	case api.ErrBootNone: // the first one is written as if a Seq of 0 stood on page 1
	default:
		return api.Record{}, err
	}
	r.Seq = last.Seq + 1
	b, err := Encode(r)
	if err != api.OK {
		return api.Record{}, err
	}
	if err := f.Erase(records, page); err != api.OK {
		return api.Record{}, err
	}
	if err := f.Program(records, page, b); err != api.OK {
		return api.Record{}, err
	}
	return r, api.OK
}

// History: the records that stand on both pages, the elder one first.
func History(f *flash.Flash) ([]api.Record, api.Errno) {
	l, err := fronts(f)
	if err != api.OK {
		return nil, err
	}
	if l[1].Seq < l[0].Seq {
		l[0], l[1] = l[1], l[0]
	}
	return slices.DeleteFunc(l[:], func(r api.Record) bool { return r == (api.Record{}) }), api.OK
}
