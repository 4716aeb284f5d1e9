package extent

import (
	"strongroom/api"
	"strongroom/num"
)

// Encode is an area's bytes.
func (a *Area) Encode() []byte {
	if a == nil {
		return nil
	}
	var out []byte
	// Each number is made by itself: num.Put copies all that it is handed, which may be many holes.
	put := func(n int) { out = append(out, num.Put(nil, uint64(n))...) }
	put(a.size)
	put(len(a.holes))
	behind := 0
	for _, h := range a.holes {
		put(h.From - behind)
		put(h.Size)
		behind = end(h)
	}
	return out
}

// Decode is the area of some bytes.
func Decode(b []byte) (*Area, api.Errno) {
	if len(b) > api.MaxBytes {
		return nil, api.ErrLong
	}
	r := reader{b: b}
	a, ok := r.area()
	if !ok || r.e != api.OK || r.at != len(b) {
		return nil, api.ErrForm
	}
	return a, api.OK
}

// reader reads one number behind the other. Behind the first error, which it keeps, it reads 0.
type reader struct {
	b  []byte
	at int
	e  api.Errno
}

// area reads an area, and tells whether its numbers may be. Where the bytes end too early it ends as well: a hole of size 0 may not be.
func (r *reader) area() (*Area, bool) {
	a := &Area{size: r.number()}
	if !isSize(a.size) {
		return nil, false
	}
	behind := 0
	for i := range r.number() {
		distance := r.number()
		h := api.Span{From: behind + distance, Size: r.number()}
		if i > 0 && distance == 0 || !a.has(h) {
			return nil, false
		}
		a.holes = append(a.holes, h)
		behind = end(h)
	}
	return a, true
}

// number reads a number. One above all sizes is cut to the least such number: nothing of an area may be that either.
func (r *reader) number() int {
	if r.e != api.OK {
		return 0
	}
	var n uint64
	n, r.at, r.e = num.Get(r.b, r.at)
	return int(min(n, maxSize+1))
}
