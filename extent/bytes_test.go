package extent

import (
	"bytes"
	"fmt"
	"math/rand"
	"slices"
	"testing"

	"strongroom/api"
)

func TestEncode(t *testing.T) {
	mustList(t, "all free", fresh(t, 10).Encode(), []byte{10, 1, 0, 10})
	mustList(t, "none free", withHoles(t, 10).Encode(), []byte{10, 0})
	mustList(t, "some free", withHoles(t, 300, span(2, 3), span(7, 200), span(299, 1)).Encode(), []byte{172, 2, 3, 2, 3, 2, 200, 1, 92, 1})
	mustList(t, "the greatest", fresh(t, 1<<20).Encode(), []byte{128, 128, 64, 1, 0, 128, 128, 64})
}

func mustDecode(t *testing.T, what string, b []byte) *Area {
	t.Helper()
	given := slices.Clone(b)
	a, e := Decode(b)
	if a == nil || e != api.OK {
		t.Fatalf("Decode of %s: %v, %d", what, a, e)
	}
	mustList(t, "what was handed in", b, given)
	mustList(t, what+": its bytes", a.Encode(), given)
	return a
}

func refusesDecode(t *testing.T, what string, b []byte, want api.Errno) {
	t.Helper()
	a, e := Decode(b)
	if a != nil || e != want {
		t.Fatalf("Decode of %s: %v, %d, not error %d", what, a, e, want)
	}
}

// Every area of up to nine bytes is read again; it goes on by itself, by Next from 0 on.
func TestEachAreaIsReadAgain(t *testing.T) {
	for size := 1; size <= 9; size++ {
		eachPlain(size, func(p *plain) {
			a := made(t, &plain{taken: p.taken, next: size})
			what := fmt.Sprintf("taken %v", p.runs(true))
			got := mustDecode(t, what, a.Encode())
			mustBe(t, what, got, p)
			again := p.clone()
			for range 3 {
				from, e := got.Alloc(1, Next)
				wantFrom, want := again.alloc(1, 3)
				must(t, what+": Next", e, want)
				must(t, what+": Next", from, wantFrom)
			}
			mustBe(t, what, got, again)
			mustBe(t, what, a, p)
		})
	}
}

// A short text of bytes is an area's just if it is one of those that the words lay.
func TestEachShortText(t *testing.T) {
	right := map[string]bool{}
	for size := 1; size <= 7; size++ {
		eachPlain(size, func(p *plain) { right[string(laid(size, p.runs(false)...))] = true })
	}
	letters := []byte{0, 1, 2, 3, 4, 5, 6, 7}
	seen := 0
	var each func(b []byte)
	each = func(b []byte) {
		a, e := Decode(b)
		if right[string(b)] {
			seen++
			must(t, fmt.Sprintf("Decode(%v)", b), e, api.OK)
			mustList(t, "its bytes", a.Encode(), b)
		} else {
			refusesDecode(t, fmt.Sprint(b), b, api.ErrForm)
		}
		if len(b) == 6 {
			return
		}
		for _, c := range letters {
			each(append(b[:len(b):len(b)], c))
		}
	}
	each(nil)
	short := 0
	for s := range right {
		if len(s) <= 6 {
			short++
		}
	}
	must(t, "how many areas there were", seen, short)
}

func TestWrongBytes(t *testing.T) {
	const most = 1 << 20
	wrong := map[string][]byte{
		"nothing":                        nil,
		"no holes' number":               {10},
		"size 0":                         laid(0),
		"size 0 and a hole":              laid(0, span(0, 1)),
		"size 2^20 + 1":                  laid(most + 1),
		"size 2^32 + 1":                  laid(1<<32+1, span(0, 1)),
		"size 2^62":                      laid(1<<62, span(0, 1)),
		"size 2^64 - 1":                  {255, 255, 255, 255, 255, 255, 255, 255, 255, 1, 0},
		"a number above 2^64 - 1":        {255, 255, 255, 255, 255, 255, 255, 255, 255, 2, 0},
		"a number in a second form":      {138, 0, 0},
		"holes' number in a second form": {10, 128, 0},
		"a distance in a second form":    {10, 1, 129, 0, 1},
		"a size in a second form":        {10, 1, 1, 129, 0},
		"a number cut off":               {138},
		"one hole too few":               {10, 2, 0, 1},
		"half a hole too few":            {10, 2, 0, 1, 1},
		"a hole too many":                {10, 1, 0, 1, 1, 1},
		"a byte behind":                  append(laid(10, span(0, 10)), 0),
		"a byte behind none":             {10, 0, 0},
		"a hole of size 0":               laid(10, span(0, 0)),
		"a hole of size 0 at the end":    laid(10, span(10, 0)),
		"a hole of size 0 amid":          laid(10, span(0, 1), span(2, 0)),
		"holes that touch":               laid(10, span(0, 1), span(1, 1)),
		"later holes that touch":         laid(10, span(1, 1), span(3, 1), span(4, 1)),
		"a hole past the end":            laid(10, span(0, 11)),
		"a hole behind the end":          laid(10, span(10, 1)),
		"a hole that goes past the end":  laid(10, span(9, 2)),
		"a second one past the end":      laid(10, span(0, 5), span(9, 2)),
		"a great hole of the greatest":   laid(most, span(0, most+1)),
		"a far hole of the greatest":     laid(most, span(most, 1)),
		"a distance of 2^64 - 1":         {10, 1, 255, 255, 255, 255, 255, 255, 255, 255, 255, 1, 2},
		"a distance of 2^63":             {10, 1, 128, 128, 128, 128, 128, 128, 128, 128, 128, 1, 1},
		"a size of 2^64 - 1":             {10, 1, 2, 255, 255, 255, 255, 255, 255, 255, 255, 255, 1},
		"a size that wraps round":        {10, 2, 0, 3, 2, 251, 255, 255, 255, 255, 255, 255, 255, 255, 1},
		"a distance of 2^32":             {10, 1, 128, 128, 128, 128, 16, 1},
		"holes' number 2^64 - 1":         {10, 255, 255, 255, 255, 255, 255, 255, 255, 255, 1, 0, 1},
		"holes' number 2^63":             {10, 128, 128, 128, 128, 128, 128, 128, 128, 128, 1},
		"holes' number 2^32":             {10, 128, 128, 128, 128, 16},
		"holes' number 2^32 + 1":         {10, 129, 128, 128, 128, 16, 0, 1},
	}
	for what, b := range wrong {
		refusesDecode(t, what, b, api.ErrForm)
	}
}

// everySecond is holes of one byte with one byte ahead of each.
func everySecond(n int) []api.Span {
	var l []api.Span
	for i := range n {
		l = append(l, span(2*i+1, 1))
	}
	return l
}

func TestLongBytes(t *testing.T) {
	const size = 1 << 20
	l := everySecond(32765) // three bytes for the size, three for their number, two for each
	b := laid(size, l...)
	must(t, "so many bytes", len(b), api.MaxBytes)
	a := mustDecode(t, "65,536 bytes", b)
	mustList(t, "its holes", a.Holes(), l)
	must(t, "its bytes that are free", a.Free(), 32765)

	l[32764].From += 128 // a distance of two bytes
	b = laid(size, l...)
	must(t, "so many bytes", len(b), api.MaxBytes+1)
	refusesDecode(t, "65,537 bytes of an area", b, api.ErrLong)
	must(t, "Give", a.Give(l[32764]), api.OK)
	must(t, "Take", a.Take(span(2*32764+1, 1)), api.OK)
	must(t, "an area's bytes are all told", bytes.Equal(a.Encode(), b), true)

	refusesDecode(t, "65,537 noughts", make([]byte, api.MaxBytes+1), api.ErrLong)
	refusesDecode(t, "65,536 noughts", make([]byte, api.MaxBytes), api.ErrForm)
	refusesDecode(t, "65,536 bytes of an area and others", append(laid(size), make([]byte, api.MaxBytes-4)...), api.ErrForm)
	refusesDecode(t, "65,537 bytes of an area and others", append(laid(size), make([]byte, api.MaxBytes-3)...), api.ErrLong)
	refusesDecode(t, "many bytes", make([]byte, 1<<22), api.ErrLong)
}

// Bytes that are an area's with some of them changed are another area's, or none's; in each case no call panics.
func TestChangedBytes(t *testing.T) {
	ok := 0
	for seed := range int64(20000) {
		r := rand.New(rand.NewSource(seed))
		p := plainArea(1 + r.Intn(200))
		for i := range p.taken {
			p.taken[i] = r.Intn(8) > 0
		}
		b := laid(len(p.taken), p.runs(false)...)
		for range 1 + r.Intn(2) {
			b[r.Intn(len(b))] = byte(r.Intn(1 << r.Intn(9)))
		}
		b = b[:len(b)-r.Intn(2)*r.Intn(2)]
		a, e := Decode(b)
		if e != api.OK {
			refusesDecode(t, fmt.Sprint(b), b, api.ErrForm)
			continue
		}
		ok++
		mustList(t, "its bytes", a.Encode(), b)
		mustBe(t, "what was read", a, asPlain(a))
	}
	if ok < 500 || ok > 19500 {
		t.Fatal("areas among changed bytes:", ok)
	}
}

// asPlain is an area told by its holes alone.
func asPlain(a *Area) *plain {
	p := plainArea(a.Size())
	p.fill(span(0, a.Size()), true)
	for _, h := range a.Holes() {
		p.fill(h, false)
	}
	return p
}

// What is read isn't kept, and what is told isn't either.
func TestBytesMemory(t *testing.T) {
	b := laid(10, span(1, 2), span(5, 5))
	x, _ := Decode(b)
	clear(b)
	mustList(t, "Holes", x.Holes(), []api.Span{span(1, 2), span(5, 5)})
	y := mustDecode(t, "its bytes", x.Encode())
	must(t, "Take", y.Take(span(1, 2)), api.OK)
	mustList(t, "Holes", x.Holes(), []api.Span{span(1, 2), span(5, 5)})
}
