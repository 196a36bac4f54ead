package flash

import (
	"bytes"
	"slices"

	"sapper/api"
)

// blank: each byte of a page that is erased.
const blank = 255

// place says which page.
type place struct{ area, page int }

// sheet is a page. Bytes that it does not keep are blank.
type sheet struct {
	bytes  []byte
	erased bool
	wear   int
}

// pagesOf: how many pages an area has; 0: there is no such area.
func (f *Flash) pagesOf(area int) int {
	switch {
	case area < 0 || area > records:
		return 0
	case area == records:
		return recordPages
	}
	return f.shape.Pages
}

// missing: why there is no such page.
func (f *Flash) missing(at place) api.Errno {
	if at.page < 0 || at.page >= f.pagesOf(at.area) {
		return api.ErrFlashPlace
	}
	return api.OK
}

// sheet: a page; one that was never written is as New leaves it.
func (f *Flash) sheet(at place) sheet {
	if s, there := f.pages[at]; there {
		return s
	}
	return sheet{erased: at.area == records}
}

// laid: the whole bytes of a page, these at the front, and behind them what it has.
func (f *Flash) laid(front []byte, s sheet) []byte {
	out := bytes.Repeat([]byte{blank}, f.shape.Page)
	copy(out, s.bytes)
	copy(out, front)
	return out
}

// operation is what is done with a page.
type operation interface {
	where() place
}

// erasing is an operation.
type erasing struct{ place }

// programming is an operation.
type programming struct {
	place
	bytes []byte
}

func (p place) where() place { return p }

// after: the page behind an operation, and of what kind that is.
func after(s sheet, o operation) (now sheet, kind api.OpKind) {
	switch x := o.(type) {
	case erasing:
		now, kind = sheet{erased: true, wear: s.wear + 1}, api.OpErase
	case programming:
		now, kind = sheet{bytes: slices.Clone(x.bytes), wear: s.wear}, api.OpProgram
	}
	return now, kind
}

// cut is when the power goes.
type cut struct {
	left int    // operations up to the one that is cut, which is counted, too; 0: none is planned
	torn []byte // what that one leaves at its page's front
}

// run: an operation that nothing speaks against, whole or cut.
func (f *Flash) run(o operation) api.Errno {
	at := o.where()
	was := f.sheet(at)
	now, kind := after(was, o)
	f.log = append(f.log, api.Op{Kind: kind, Area: at.area, Page: at.page})
	if f.plan.left == 1 {
		// An Erase that is cut wears its page, too.
		f.pages[at] = sheet{bytes: f.laid(f.plan.torn, was), wear: now.wear}
		f.plan, f.on = cut{}, false
		return api.ErrFlashPower
	}
	f.pages[at] = now
	f.plan.left = max(0, f.plan.left-1)
	return api.OK
}
