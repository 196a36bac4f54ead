package boot

import (
	"sapper/api"
	"sapper/crc"
	"sapper/num"
)

const (
	magic       = "bt01" // what every record's bytes begin with
	seqBytes    = 8
	slotBytes   = 1
	wordBytes   = 4 // of a version, a size and a sum
	trialBytes  = 1
	imageBytes  = slotBytes + 3*wordBytes
	bodyBytes   = len(magic) + seqBytes + 2*imageBytes + trialBytes // those ahead of the sum
	recordBytes = bodyBytes + wordBytes
)

// field is a closure over one of a record's numbers, of so many bytes: it hands the number over, and has what is answered from there on.
type field func(pass func(v uint64, size int) uint64)

// fields: those of a record, in the order of its bytes.
func fields(r *api.Record) []field {
	l := []field{number(&r.Seq, seqBytes)}
	for _, i := range []*api.Image{&r.Good, &r.Next} {
		l = append(l, number(&i.Slot, slotBytes), number(&i.Version, wordBytes), number(&i.Size, wordBytes), number(&i.Sum, wordBytes))
	}
	return append(l, number(&r.Trial, trialBytes))
}

// number: the field that stands at a place. What eight bytes say above the greatest int falls below 0, which no field may be.
func number[T int | uint32](at *T, size int) field {
	return func(pass func(uint64, int) uint64) {
		*at = T(pass(uint64(*at), size))
	}
}

// Encode: a record's bytes.
func Encode(r api.Record) ([]byte, api.Errno) {
	if err := Check(r); err != api.OK {
		return nil, err
	}
	out := append(make([]byte, 0, recordBytes), magic...)
	for _, f := range fields(&r) {
		f(func(v uint64, size int) uint64 {
			out = append(out, fixed(v, size)...)
			return v
		})
	}
	return append(out, fixed(uint64(crc.Sum(out)), wordBytes)...), api.OK
}

// fixed: a number in so many bytes, which hold it: no field of a record that may be has a greater one.
func fixed(v uint64, size int) []byte {
	b, _ := num.Fixed(v, size)
	return b
}

// Decode: the record that a page's bytes begin with.
func Decode(b []byte) (api.Record, api.Errno) {
	if len(b) < recordBytes || string(b[:len(magic)]) != magic {
		return api.Record{}, api.ErrBootRecord
	}
	if sum, _ := num.Unfix(b[bodyBytes:], wordBytes); sum != uint64(crc.Sum(b[:bodyBytes])) {
		return api.Record{}, api.ErrBootRecord
	}
	var r api.Record
	rest := b[len(magic):bodyBytes]
	for _, f := range fields(&r) {
		f(func(_ uint64, size int) uint64 {
			v, _ := num.Unfix(rest, size)
			rest = rest[size:]
			return v
		})
	}
	return checked(r)
}
