package cutter

import (
	"sapper/api"
	"sapper/num"
)

// Control: a window's steps as bytes.
func Control(steps ...api.Step) ([]byte, api.Errno) {
	l := make([]uint64, 0, 3*len(steps))
	for _, s := range steps {
		if !isPartSize(s.Add) || !isPartSize(s.Copy) || s.Seek < -api.MaxImage || s.Seek > api.MaxImage {
			return nil, api.ErrCutWindow
		}
		l = append(l, uint64(s.Add), uint64(s.Copy), num.Zig(s.Seek))
	}
	return num.Encode(l...), api.OK
}

// Uncontrol: the steps of these bytes.
func Uncontrol(b []byte) ([]api.Step, api.Errno) {
	// Zig gives the numbers from -MaxImage to MaxImage just those up to that of MaxImage.
	most := [3]uint64{api.MaxWindow, api.MaxWindow, num.Zig(api.MaxImage)}
	var out []api.Step
	for len(b) > 0 {
		var l [3]uint64
		for i := range l {
			v, n, err := num.Decode(b)
			if err != api.OK {
				return nil, err
			}
			if v > most[i] {
				return nil, api.ErrCutWindow
			}
			l[i], b = v, b[n:]
		}
		out = append(out, api.Step{Add: int(l[0]), Copy: int(l[1]), Seek: num.Zag(l[2])})
	}
	return out, api.OK
}

// Most: how many bytes the control of a window can have.
func Most(window int) int {
	if !isWindowSize(window) {
		return 0
	}
	// A step costs the most for each of its bytes, if it has one: that, a 0, and a Seek of four bytes.
	return 6 * window
}

// isPartSize: may a step of a window add, or copy, so many bytes?
func isPartSize(n int) bool { return 0 <= n && n <= api.MaxWindow }
