package extent

import (
	"bytes"
	"encoding/binary"
	"fmt"
	"math/rand"
	"slices"
	"testing"

	"strongroom/api"
)

// must holds an answer against the one that is asked for.
func must(t *testing.T, what string, got, want any) {
	t.Helper()
	if got != want {
		t.Fatalf("%s: %#v, not %#v", what, got, want)
	}
}

// mustList holds a list against the one that is asked for; nil and empty lists are one.
func mustList[T comparable](t *testing.T, what string, got, want []T) {
	t.Helper()
	if !slices.Equal(got, want) {
		t.Fatalf("%s: %v, not %v", what, got, want)
	}
}

func span(from, size int) api.Span { return api.Span{From: from, Size: size} }

func fresh(t *testing.T, size int) *Area {
	t.Helper()
	a, e := New(size)
	if a == nil || e != api.OK {
		t.Fatalf("New(%d): %v, %d", size, a, e)
	}
	return a
}

// plain is an area as the chapter's words tell it, byte by byte.
type plain struct {
	taken []bool
	next  int
}

func plainArea(size int) *plain { return &plain{taken: make([]bool, size)} }

func (p *plain) clone() *plain { return &plain{slices.Clone(p.taken), p.next} }

// runs are the greatest extents whose bytes are all taken, or all free.
func (p *plain) runs(taken bool) []api.Span {
	var l []api.Span
	for i, is := range p.taken {
		if is != taken {
			continue
		}
		if i > 0 && p.taken[i-1] == taken {
			l[len(l)-1].Size++
		} else {
			l = append(l, span(i, 1))
		}
	}
	return l
}

func (p *plain) free() int {
	n := 0
	for _, is := range p.taken {
		if !is {
			n++
		}
	}
	return n
}

func (p *plain) largest() int {
	n := 0
	for _, h := range p.runs(false) {
		n = max(n, h.Size)
	}
	return n
}

// all tells whether all bytes of an extent are taken, or all are free.
func (p *plain) all(s api.Span, taken bool) bool {
	for i := s.From; i < s.From+s.Size; i++ {
		if p.taken[i] != taken {
			return false
		}
	}
	return true
}

func (p *plain) fill(s api.Span, taken bool) {
	for i := s.From; i < s.From+s.Size; i++ {
		p.taken[i] = taken
	}
}

func (p *plain) has(s api.Span) bool {
	for from := range p.taken {
		if from == s.From {
			return s.Size >= 1 && s.Size <= len(p.taken)-from
		}
	}
	return false
}

func (p *plain) change(s api.Span, taken bool) api.Errno {
	if !p.has(s) {
		return api.ErrRange
	}
	if !p.all(s, !taken) {
		return api.ErrState
	}
	p.fill(s, taken)
	return api.OK
}

// chosen is the hole of those that are great enough (there is at least one) that a rule's words name.
func chosen(great []api.Span, rule Rule, next int) api.Span {
	l := slices.Clone(great)
	switch rule {
	case 1:
		slices.SortStableFunc(l, func(x, y api.Span) int { return x.Size - y.Size })
	case 2:
		slices.SortStableFunc(l, func(x, y api.Span) int { return y.Size - x.Size })
	case 3:
		if i := slices.IndexFunc(l, func(h api.Span) bool { return h.From >= next }); i >= 0 {
			l = l[i:]
		}
	}
	return l[0]
}

func (p *plain) alloc(n int, rule Rule) (int, api.Errno) {
	if n < 1 || rule < 0 || rule > 3 {
		return 0, api.ErrArg
	}
	great := slices.DeleteFunc(p.runs(false), func(h api.Span) bool { return h.Size < n })
	if len(great) == 0 {
		return 0, api.ErrFull
	}
	from := chosen(great, rule, p.next).From
	p.fill(span(from, n), true)
	if rule == 3 {
		p.next = from + n
	}
	return from, api.OK
}

func (p *plain) plan(l []api.Span) ([]Move, api.Errno) {
	for _, s := range l {
		if !p.has(s) {
			return nil, api.ErrRange
		}
	}
	whose := make([]int, len(p.taken)) // 1 + the place in l of the extent that a byte is of
	for i, s := range l {
		for at := s.From; at < s.From+s.Size; at++ {
			if !p.taken[at] || whose[at] != 0 {
				return nil, api.ErrState
			}
			whose[at] = i + 1
		}
	}
	var out []Move
	to := 0
	for at, i := range whose {
		if i == 0 || l[i-1].From != at {
			continue
		}
		s := l[i-1]
		if s.From != to {
			out = append(out, Move{From: s.From, To: to, Size: s.Size})
		}
		to += s.Size
	}
	return out, api.OK
}

// laid is the bytes of an area's size and holes, whether there is such an area or not, as Go's library writes numbers.
func laid(size int, holes ...api.Span) []byte {
	b := binary.AppendUvarint(nil, uint64(size))
	b = binary.AppendUvarint(b, uint64(len(holes)))
	end := 0
	for _, h := range holes {
		b = binary.AppendUvarint(b, uint64(h.From-end))
		b = binary.AppendUvarint(b, uint64(h.Size))
		end = h.From + h.Size
	}
	return b
}

// mustBe holds all that an area tells of itself against the words.
func mustBe(t *testing.T, what string, a *Area, p *plain) {
	t.Helper()
	holes := p.runs(false)
	must(t, what+": Size", a.Size(), len(p.taken))
	must(t, what+": Free", a.Free(), p.free())
	must(t, what+": Largest", a.Largest(), p.largest())
	mustList(t, what+": Holes", a.Holes(), holes)
	mustList(t, what+": Taken", a.Taken(), p.runs(true))
	if b := a.Encode(); !bytes.Equal(b, laid(len(p.taken), holes...)) {
		t.Fatalf("%s: Encode: %v of %v", what, b, holes)
	}
}

// made is an area whose bytes are taken as p tells, and whose rule Next goes on from where p's does.
func made(t *testing.T, p *plain) *Area {
	t.Helper()
	a := fresh(t, len(p.taken))
	if p.next > 0 {
		from, e := a.Alloc(p.next, Next)
		must(t, "Alloc ahead", from, 0)
		must(t, "Alloc ahead", e, api.OK)
		must(t, "Give ahead", a.Give(span(0, p.next)), api.OK)
	}
	for i, is := range p.taken {
		if is {
			must(t, "Take ahead", a.Take(span(i, 1)), api.OK)
		}
	}
	return a
}

// eachPlain goes over all areas of a size, but for where the rule Next goes on.
func eachPlain(size int, f func(p *plain)) {
	for bits := range 1 << size {
		p := plainArea(size)
		for i := range size {
			p.taken[i] = bits>>i&1 == 1
		}
		f(p)
	}
}

// Every area of up to seven bytes, every place from which Next goes on, every Alloc; and behind it another one by Next, which tells where that goes on from now.
func TestEachAlloc(t *testing.T) {
	for size := 1; size <= 7; size++ {
		eachPlain(size, func(p *plain) {
			for p.next = range size + 1 {
				for n := -1; n <= size+1; n++ {
					for rule := Rule(-1); rule <= 4; rule++ {
						oneAlloc(t, p, n, rule)
					}
				}
			}
		})
	}
}

func oneAlloc(t *testing.T, p *plain, n int, rule Rule) {
	t.Helper()
	what := fmt.Sprintf("%v from %d: Alloc(%d, %d)", p.runs(true), p.next, n, rule)
	a, p := made(t, p), p.clone()
	for _, r := range []Rule{rule, 3} {
		from, e := a.Alloc(n, r)
		wantFrom, want := p.alloc(n, r)
		must(t, what, e, want)
		must(t, what, from, wantFrom)
		mustBe(t, what, a, p)
		n = 1
	}
}

// Every area of up to seven bytes, every extent of it and around it, taken and given.
func TestEachTakeAndGive(t *testing.T) {
	for size := 1; size <= 7; size++ {
		eachPlain(size, func(p *plain) {
			for from := -2; from <= size+1; from++ {
				for n := -2; n <= size+2; n++ {
					oneChange(t, p, span(from, n), "Take", (*Area).Take, true)
					oneChange(t, p, span(from, n), "Give", (*Area).Give, false)
				}
			}
		})
	}
}

func oneChange(t *testing.T, p *plain, s api.Span, name string, call func(*Area, api.Span) api.Errno, taken bool) {
	t.Helper()
	what := fmt.Sprintf("%v: %s(%v)", p.runs(true), name, s)
	a, p := made(t, p), p.clone()
	must(t, what, call(a, s), p.change(s, taken))
	mustBe(t, what, a, p)
}

// near is a number up to most, or rarely one that is beside that.
func near(r *rand.Rand, most int) int {
	if r.Intn(20) == 0 {
		return r.Intn(5) - 2 + r.Intn(2)*most
	}
	return r.Intn(most + 1)
}

// walk does steps at random, each against the words, and tells how often each error was answered.
func walk(t *testing.T, r *rand.Rand, size, great, steps int) [13]int {
	t.Helper()
	a, p := fresh(t, size), plainArea(size)
	var seen [13]int
	for step := range steps {
		var e, want api.Errno
		what := ""
		switch k := r.Intn(10); {
		case k < 5:
			n, rule := near(r, great), Rule(r.Intn(4))
			if r.Intn(50) == 0 {
				rule = Rule(r.Intn(200) - 100)
			}
			var from, wantFrom int
			what = fmt.Sprintf("step %d: Alloc(%d, %d)", step, n, rule)
			from, e = a.Alloc(n, rule)
			wantFrom, want = p.alloc(n, rule)
			must(t, what, from, wantFrom)
		case k < 6:
			s := span(near(r, size-1), near(r, great))
			what = fmt.Sprintf("step %d: Take(%v)", step, s)
			e, want = a.Take(s), p.change(s, true)
		case k < 7:
			s := span(near(r, size-1), near(r, great))
			what = fmt.Sprintf("step %d: Give(%v)", step, s)
			e, want = a.Give(s), p.change(s, false)
		default:
			l := p.runs(true)
			if len(l) == 0 {
				continue
			}
			s := l[r.Intn(len(l))] // a piece of what is taken, often up to its end
			from := r.Intn(s.Size)
			s = span(s.From+from, min(s.Size-from, 1+r.Intn(2*great)))
			what = fmt.Sprintf("step %d: Give(%v)", step, s)
			e, want = a.Give(s), p.change(s, false)
		}
		must(t, what, e, want)
		seen[e]++
		mustBe(t, what, a, p)
	}
	return seen
}

func TestWalks(t *testing.T) {
	var seen [13]int
	for seed := range int64(300) {
		r := rand.New(rand.NewSource(seed))
		size := 1 + r.Intn(200)
		for e, n := range walk(t, r, size, 1+r.Intn(1+size/4), 300) {
			seen[e] += n
		}
	}
	for _, e := range []api.Errno{api.OK, api.ErrArg, api.ErrFull, api.ErrState, api.ErrRange} {
		if seen[e] < 300 {
			t.Fatalf("the error %d was answered %d times", e, seen[e])
		}
	}
}

// No byte is given out twice: each has one owner at most, and all extents can be given back one by one.
func TestNoByteTwice(t *testing.T) {
	for seed := range int64(200) {
		r := rand.New(rand.NewSource(seed))
		const size = 100
		a := fresh(t, size)
		var owner [size]int
		var given []api.Span
		for id := 1; id < 200; id++ {
			if len(given) > 0 && r.Intn(5) < 2 {
				i := r.Intn(len(given))
				must(t, "Give", a.Give(given[i]), api.OK)
				for at := given[i].From; at < given[i].From+given[i].Size; at++ {
					owner[at] = 0
				}
				given = slices.Delete(given, i, i+1)
				continue
			}
			n := 1 + r.Intn(12)
			from, e := a.Alloc(n, Rule(r.Intn(4)))
			if e != api.OK {
				must(t, "Alloc", e, api.ErrFull)
				must(t, "the largest at ErrFull is smaller", a.Largest() < n, true)
				continue
			}
			for at := from; at < from+n; at++ {
				must(t, "an owner ahead", owner[at], 0)
				owner[at] = id
			}
			given = append(given, span(from, n))
		}
		for _, s := range given {
			must(t, "Give at the end", a.Give(s), api.OK)
		}
		mustList(t, "holes at the end", a.Holes(), []api.Span{span(0, size)})
	}
}
