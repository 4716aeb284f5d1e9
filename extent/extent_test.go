package extent

import (
	"fmt"
	"math"
	"testing"

	"strongroom/api"
)

// edges are numbers at the ends of int, and those around the greatest size.
var edges = []int{math.MinInt, math.MinInt + 1, -1 << 32, -1 << 20, -1, 0, 1, 2, 1<<20 - 1, 1 << 20, 1<<20 + 1, 1<<32 + 1, math.MaxInt - 1<<20, math.MaxInt - 1, math.MaxInt}

func TestNew(t *testing.T) {
	for _, size := range []int{1, 2, 3, 255, 65536, 1<<20 - 1, 1 << 20} {
		a := fresh(t, size)
		must(t, "Size", a.Size(), size)
		must(t, "Free", a.Free(), size)
		must(t, "Largest", a.Largest(), size)
		mustList(t, "Holes", a.Holes(), []api.Span{span(0, size)})
		mustList(t, "Taken", a.Taken(), nil)
	}
	for _, size := range []int{0, -1, 1<<20 + 1, 1 << 21, 1<<32 + 1, math.MinInt, math.MaxInt} {
		a, e := New(size)
		must(t, fmt.Sprintf("New(%d)", size), e, api.ErrArg)
		must(t, fmt.Sprintf("New(%d) is nil", size), a == nil, true)
	}
}

func TestRulesNumbers(t *testing.T) {
	must(t, "First", First, Rule(0))
	must(t, "Best", Best, Rule(1))
	must(t, "Worst", Worst, Rule(2))
	must(t, "Next", Next, Rule(3))
}

func TestExamples(t *testing.T) {
	a := fresh(t, 10)
	mustAlloc(t, a, 4, First, 0)
	mustAlloc(t, a, 3, First, 4)
	must(t, "Give", a.Give(span(0, 4)), api.OK)
	mustAlloc(t, a, 3, Best, 7)
	mustList(t, "Holes", a.Holes(), []api.Span{span(0, 4)})
	mustList(t, "Taken", a.Taken(), []api.Span{span(4, 6)})
}

func mustAlloc(t *testing.T, a *Area, n int, rule Rule, want int) {
	t.Helper()
	from, e := a.Alloc(n, rule)
	if from != want || e != api.OK {
		t.Fatalf("Alloc(%d, %d): %d, %d, not %d", n, rule, from, e, want)
	}
}

// refusesAlloc is an Alloc that is refused and tells 0.
func refusesAlloc(t *testing.T, a *Area, n int, rule Rule, want api.Errno) {
	t.Helper()
	from, e := a.Alloc(n, rule)
	if from != 0 || e != want {
		t.Fatalf("Alloc(%d, %d): %d, %d, not error %d", n, rule, from, e, want)
	}
}

// withHoles is an area with just these holes.
func withHoles(t *testing.T, size int, holes ...api.Span) *Area {
	t.Helper()
	a := fresh(t, size)
	must(t, "Take of all", a.Take(span(0, size)), api.OK)
	for _, h := range holes {
		must(t, "Give of a hole", a.Give(h), api.OK)
	}
	mustList(t, "the holes", a.Holes(), holes)
	return a
}

func TestRules(t *testing.T) {
	holes := []api.Span{span(2, 3), span(10, 6), span(20, 4), span(30, 6), span(40, 4), span(50, 2)}
	rows := []struct {
		n    int
		rule Rule
		want int
	}{
		{1, First, 2}, {3, First, 2}, {4, First, 10}, {5, First, 10}, {6, First, 10},
		{1, Best, 50}, {2, Best, 50}, {3, Best, 2}, {4, Best, 20}, {5, Best, 10}, {6, Best, 10},
		{1, Worst, 10}, {2, Worst, 10}, {4, Worst, 10}, {6, Worst, 10},
		{1, Next, 2}, {3, Next, 2}, {4, Next, 10}, {6, Next, 10},
	}
	for _, r := range rows {
		mustAlloc(t, withHoles(t, 60, holes...), r.n, r.rule, r.want)
	}
	for rule := First; rule <= Next; rule++ {
		refusesAlloc(t, withHoles(t, 60, holes...), 7, rule, api.ErrFull)
		refusesAlloc(t, withHoles(t, 60), 1, rule, api.ErrFull)
	}
}

func TestNextGoesOn(t *testing.T) {
	a := fresh(t, 20)
	mustAlloc(t, a, 5, Next, 0)
	mustAlloc(t, a, 5, Next, 5)
	must(t, "Give", a.Give(span(0, 3)), api.OK)
	mustAlloc(t, a, 1, Next, 10)
	mustAlloc(t, a, 2, First, 0) // other rules don't say where Next goes on
	must(t, "Give", a.Give(span(5, 5)), api.OK)
	mustAlloc(t, a, 1, Next, 11)
	mustAlloc(t, a, 8, Next, 12)
	mustAlloc(t, a, 1, Next, 2) // behind 20 there is none: as First
	mustAlloc(t, a, 1, Next, 5) // and on from there
	refusesAlloc(t, a, 9, Next, api.ErrFull)
	mustAlloc(t, a, 1, Next, 6)
}

// A hole whose From is below the end of what was given out last is passed over, though bytes of it lie behind that end.
func TestNextPassesWhatBeginsAhead(t *testing.T) {
	a := fresh(t, 20)
	mustAlloc(t, a, 5, Next, 0)
	must(t, "Take", a.Take(span(12, 1)), api.OK)
	must(t, "Give", a.Give(span(4, 1)), api.OK) // the hole is 4 to 12 now, the end is 5
	mustAlloc(t, a, 2, Next, 13)
	must(t, "Give", a.Give(span(13, 2)), api.OK) // the hole is 13 to 20 now, the end is 15
	mustAlloc(t, a, 2, Next, 4)                  // no hole begins behind 15: as First
	mustAlloc(t, a, 2, Next, 6)                  // the hole begins where the extent ended
}

// Take and Give don't say where Next goes on either.
func TestNextBesideTakeAndGive(t *testing.T) {
	a := fresh(t, 20)
	must(t, "Take", a.Take(span(10, 4)), api.OK)
	mustAlloc(t, a, 2, Next, 0)
	must(t, "Give", a.Give(span(10, 4)), api.OK)
	must(t, "Take", a.Take(span(5, 1)), api.OK)
	mustAlloc(t, a, 2, Next, 2)
	must(t, "Give", a.Give(span(2, 2)), api.OK)
	must(t, "Take", a.Take(span(2, 3)), api.OK)
	mustAlloc(t, a, 1, Next, 6)
}

func TestWrongAllocs(t *testing.T) {
	a := fresh(t, 8)
	mustAlloc(t, a, 2, Next, 0)
	for _, n := range edges {
		for _, rule := range []Rule{-1, 4, 5, 1 << 32, math.MinInt, math.MaxInt} {
			refusesAlloc(t, a, n, rule, api.ErrArg)
		}
		for rule := First; rule <= Next; rule++ {
			if n < 1 {
				refusesAlloc(t, a, n, rule, api.ErrArg)
			}
			if n > 6 {
				refusesAlloc(t, a, n, rule, api.ErrFull)
			}
		}
	}
	mustList(t, "Holes", a.Holes(), []api.Span{span(2, 6)})
	mustAlloc(t, a, 6, Next, 2)
	refusesAlloc(t, a, 0, First, api.ErrArg) // ahead of ErrFull
	refusesAlloc(t, a, 1, First, api.ErrFull)
}

// Spans at the ends of int are no extents, of whatever area, and no sum of theirs wraps round to one.
func TestWrongSpans(t *testing.T) {
	for _, size := range []int{1, 7, 1 << 20} {
		for _, all := range []bool{false, true} {
			a := fresh(t, size)
			if all {
				must(t, "Take of all", a.Take(span(0, size)), api.OK)
			}
			before := string(a.Encode())
			for _, from := range edges {
				for _, n := range edges {
					if from >= 0 && from < size && n >= 1 && n <= size-from {
						continue
					}
					s := span(from, n)
					what := fmt.Sprintf("of %d: %v", size, s)
					must(t, what+": Take", a.Take(s), api.ErrRange)
					must(t, what+": Give", a.Give(s), api.ErrRange)
					m, e := a.Plan([]api.Span{s})
					must(t, what+": Plan", e, api.ErrRange)
					must(t, what+": Plan", len(m), 0)
				}
			}
			must(t, "what is kept", string(a.Encode()), before)
		}
	}
}

func TestTakeAndGive(t *testing.T) {
	a := fresh(t, 10)
	must(t, "Take", a.Take(span(3, 4)), api.OK)
	mustList(t, "Holes", a.Holes(), []api.Span{span(0, 3), span(7, 3)})
	for _, s := range []api.Span{span(3, 4), span(3, 1), span(6, 1), span(2, 2), span(6, 2), span(0, 10), span(0, 4), span(6, 4)} {
		must(t, fmt.Sprintf("Take(%v)", s), a.Take(s), api.ErrState)
	}
	for _, s := range []api.Span{span(2, 1), span(7, 1), span(2, 2), span(6, 2), span(2, 6), span(0, 10), span(0, 3), span(7, 3)} {
		must(t, fmt.Sprintf("Give(%v)", s), a.Give(s), api.ErrState)
	}
	must(t, "Give amid", a.Give(span(4, 2)), api.OK)
	mustList(t, "Holes", a.Holes(), []api.Span{span(0, 3), span(4, 2), span(7, 3)})
	mustList(t, "Taken", a.Taken(), []api.Span{span(3, 1), span(6, 1)})
	must(t, "Give between", a.Give(span(3, 1)), api.OK)
	mustList(t, "Holes", a.Holes(), []api.Span{span(0, 6), span(7, 3)})
	must(t, "Give between", a.Give(span(6, 1)), api.OK)
	mustList(t, "Holes", a.Holes(), []api.Span{span(0, 10)})
}

func TestGreatestArea(t *testing.T) {
	const size = 1 << 20
	a := fresh(t, size)
	for _, rule := range []Rule{First, Best, Worst, Next} {
		mustAlloc(t, a, size, rule, 0)
		refusesAlloc(t, a, 1, rule, api.ErrFull)
		must(t, "Largest", a.Largest(), 0)
		must(t, "Free", a.Free(), 0)
		mustList(t, "Holes", a.Holes(), nil)
		mustList(t, "Taken", a.Taken(), []api.Span{span(0, size)})
		must(t, "Give", a.Give(span(0, size)), api.OK)
	}
	must(t, "Take", a.Take(span(size-1, 1)), api.OK)
	mustAlloc(t, a, size-1, Worst, 0)
	must(t, "Give", a.Give(span(size-1, 1)), api.OK)
	mustAlloc(t, a, 1, Next, size-1)
}

// Each second byte is taken: there is no area with more holes.
func TestMostHoles(t *testing.T) {
	const size = 1 << 20
	a := fresh(t, size)
	for at := 1; at < size; at += 2 {
		must(t, "Take", a.Take(span(at, 1)), api.OK)
	}
	must(t, "Free", a.Free(), size/2)
	must(t, "Largest", a.Largest(), 1)
	must(t, "holes", len(a.Holes()), size/2)
	must(t, "taken", len(a.Taken()), size/2)
	must(t, "bytes", len(a.Encode()), 3+3+2*size/2)
	refusesAlloc(t, a, 2, Best, api.ErrFull)
	m, e := a.Plan(a.Taken())
	must(t, "Plan", e, api.OK)
	must(t, "moves", len(m), size/2)
	must(t, "the last move", m[len(m)-1], Move{From: size - 1, To: size/2 - 1, Size: 1})
	must(t, "Give", a.Give(span(size/2+1, 1)), api.OK)
	mustAlloc(t, a, 2, First, size/2)
}

func TestNilArea(t *testing.T) {
	var a *Area
	must(t, "Size", a.Size(), 0)
	must(t, "Free", a.Free(), 0)
	must(t, "Largest", a.Largest(), 0)
	mustList(t, "Holes", a.Holes(), nil)
	mustList(t, "Taken", a.Taken(), nil)
	mustList(t, "Encode", a.Encode(), nil)
	for _, n := range edges {
		for rule := Rule(-1); rule <= 4; rule++ {
			refusesAlloc(t, a, n, rule, api.ErrArg)
		}
		must(t, "Take", a.Take(span(n, 1)), api.ErrArg)
		must(t, "Give", a.Give(span(0, n)), api.ErrArg)
		m, e := a.Plan([]api.Span{span(n, 1)})
		must(t, "Plan", e, api.ErrArg)
		must(t, "Plan", len(m), 0)
	}
	_, e := a.Plan(nil)
	must(t, "Plan of none", e, api.ErrArg)
}

// What an area tells is new memory: it may be changed, and two answers share none.
func TestNewMemory(t *testing.T) {
	a := withHoles(t, 9, span(0, 2), span(4, 1), span(7, 2))
	before := string(a.Encode())
	for range 2 {
		for _, l := range [][]api.Span{a.Holes(), a.Taken()} {
			for i := range l {
				l[i] = span(99, 99)
			}
			_ = append(l, span(99, 99))
		}
		b := a.Encode()
		clear(b)
		must(t, "the area", string(a.Encode()), before)
	}
	x, y := a.Holes(), a.Holes()
	x[0] = span(99, 99)
	must(t, "the other answer", y[0], span(0, 2))
	_ = append(x[:1], span(98, 98), span(97, 97))
	must(t, "the other answer", y[1], span(4, 1))
	must(t, "Give", a.Give(span(2, 2)), api.OK)
	mustList(t, "an answer of before", y, []api.Span{span(0, 2), span(4, 1), span(7, 2)})
}

// Two areas have nothing in common.
func TestAreasApart(t *testing.T) {
	a, b := fresh(t, 10), fresh(t, 10)
	mustAlloc(t, a, 4, Next, 0)
	mustAlloc(t, b, 4, Next, 0)
	mustAlloc(t, a, 4, Next, 4)
	mustList(t, "Holes", b.Holes(), []api.Span{span(4, 6)})
	must(t, "Give", b.Give(span(0, 4)), api.OK)
	mustList(t, "Holes", a.Holes(), []api.Span{span(8, 2)})
}
