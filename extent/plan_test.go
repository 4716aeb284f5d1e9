package extent

import (
	"fmt"
	"math"
	"math/rand"
	"slices"
	"testing"

	"strongroom/api"
)

func TestPlan(t *testing.T) {
	a := withHoles(t, 20, span(3, 2), span(9, 1), span(15, 5))
	rows := []struct {
		l    []api.Span
		want []Move
	}{
		{nil, nil},
		{[]api.Span{}, nil},
		{[]api.Span{span(0, 3)}, nil},
		{[]api.Span{span(0, 1), span(1, 2)}, nil},
		{[]api.Span{span(1, 2)}, []Move{{1, 0, 2}}},
		{[]api.Span{span(14, 1)}, []Move{{14, 0, 1}}},
		{[]api.Span{span(5, 4), span(0, 3)}, []Move{{5, 3, 4}}},
		{[]api.Span{span(10, 5), span(5, 4), span(0, 3)}, []Move{{5, 3, 4}, {10, 7, 5}}},
		{[]api.Span{span(7, 2), span(5, 2), span(10, 1), span(12, 3)}, []Move{{5, 0, 2}, {7, 2, 2}, {10, 4, 1}, {12, 5, 3}}},
		{[]api.Span{span(2, 1), span(0, 2), span(10, 2)}, []Move{{10, 3, 2}}},
		{[]api.Span{span(12, 2), span(0, 1), span(2, 1)}, []Move{{2, 1, 1}, {12, 2, 2}}},
	}
	before := string(a.Encode())
	for _, r := range rows {
		given := slices.Clone(r.l)
		m, e := a.Plan(r.l)
		must(t, fmt.Sprintf("Plan(%v)", given), e, api.OK)
		mustList(t, fmt.Sprintf("Plan(%v)", given), m, r.want)
		mustList(t, "what was handed in", r.l, given)
		must(t, "what is kept", string(a.Encode()), before)
	}
}

func refusesPlan(t *testing.T, a *Area, want api.Errno, l ...api.Span) {
	t.Helper()
	m, e := a.Plan(l)
	if len(m) != 0 || e != want {
		t.Fatalf("Plan(%v): %v, %d, not error %d", l, m, e, want)
	}
}

func TestPlanRefuses(t *testing.T) {
	a := withHoles(t, 20, span(3, 2), span(9, 1), span(15, 5))
	right, free, wrong := span(0, 3), span(3, 1), span(18, 3)
	for _, s := range []api.Span{wrong, span(0, 0), span(0, -1), span(-1, 2), span(20, 1), span(0, 21), span(21, -1), span(1, math.MaxInt), span(math.MaxInt, math.MaxInt)} {
		refusesPlan(t, a, api.ErrRange, s)
		refusesPlan(t, a, api.ErrRange, right, s)
		refusesPlan(t, a, api.ErrRange, s, right)
		refusesPlan(t, a, api.ErrRange, free, s) // ErrRange over all of l goes ahead
		refusesPlan(t, a, api.ErrRange, s, free)
		refusesPlan(t, a, api.ErrRange, right, right, s)
		refusesPlan(t, a, api.ErrRange, s, right, right)
	}
	for _, s := range []api.Span{free, span(2, 2), span(4, 2), span(0, 20), span(8, 3), span(9, 1), span(15, 5), span(14, 2), span(3, 2)} {
		refusesPlan(t, a, api.ErrState, s)
		refusesPlan(t, a, api.ErrState, s, span(6, 1), span(11, 1))
		refusesPlan(t, a, api.ErrState, span(11, 1), span(6, 1), s)
	}
	refusesPlan(t, a, api.ErrState, right, right)
	refusesPlan(t, a, api.ErrState, span(0, 2), span(1, 2))
	refusesPlan(t, a, api.ErrState, span(1, 2), span(0, 2))
	refusesPlan(t, a, api.ErrState, span(10, 5), span(12, 1))
	refusesPlan(t, a, api.ErrState, span(10, 5), span(14, 1))
	refusesPlan(t, a, api.ErrState, span(14, 1), span(0, 3), span(10, 5))
	refusesPlan(t, a, api.ErrState, span(10, 1), span(10, 5))
}

// Every area of up to five bytes, every list of up to two spans in it and around it.
func TestEachPlan(t *testing.T) {
	for size := 1; size <= 5; size++ {
		var l []api.Span
		for from := -1; from <= size; from++ {
			for n := -1; n <= size+1; n++ {
				l = append(l, span(from, n))
			}
		}
		eachPlain(size, func(p *plain) {
			a := made(t, p)
			for _, x := range l {
				mustPlan(t, a, p, []api.Span{x})
				for _, y := range l {
					mustPlan(t, a, p, []api.Span{x, y})
				}
			}
			mustBe(t, "the area", a, p)
		})
	}
}

func mustPlan(t *testing.T, a *Area, p *plain, l []api.Span) api.Errno {
	t.Helper()
	what := fmt.Sprintf("taken %v: Plan(%v)", p.runs(true), l)
	given := slices.Clone(l)
	m, e := a.Plan(l)
	wantMoves, want := p.plan(l)
	must(t, what, e, want)
	mustList(t, what, m, wantMoves)
	mustList(t, "what was handed in", l, given)
	return e
}

// pieces are extents of what is taken, in any order, and now and then one too much.
func pieces(r *rand.Rand, p *plain) []api.Span {
	var l []api.Span
	for _, s := range p.runs(true) {
		for from := s.From; from < s.From+s.Size; {
			n := 1 + r.Intn(min(5, s.From+s.Size-from))
			if r.Intn(4) > 0 {
				l = append(l, span(from, n))
			}
			from += n
		}
	}
	if r.Intn(3) == 0 {
		l = append(l, span(r.Intn(len(p.taken)+2)-1, r.Intn(4)))
	}
	r.Shuffle(len(l), func(i, j int) { l[i], l[j] = l[j], l[i] })
	return l
}

// The moves of a plan, done one after the other, bring each extent's bytes to where they belong.
func TestMovesAreDone(t *testing.T) {
	done := 0
	for seed := range int64(3000) {
		r := rand.New(rand.NewSource(seed))
		p := plainArea(1 + r.Intn(80))
		rare := 1 + r.Intn(6)
		for i := range p.taken {
			p.taken[i] = r.Intn(rare+1) > 0
		}
		l := pieces(r, p)
		a := made(t, p)
		if mustPlan(t, a, p, l) == api.OK {
			done++
			doMoves(t, a, len(p.taken), l)
		}
		mustBe(t, "the area", a, p)
	}
	if done < 1000 {
		t.Fatal("plans that were done:", done)
	}
}

func doMoves(t *testing.T, a *Area, size int, l []api.Span) {
	t.Helper()
	m, _ := a.Plan(l)
	cells := make([]int, size)
	for i := range cells {
		cells[i] = i
	}
	for i, x := range m {
		copy(cells[x.To:x.To+x.Size], cells[x.From:x.From+x.Size])
		for _, y := range m[i+1:] {
			for at := y.From; at < y.From+y.Size; at++ {
				must(t, "what is still to be moved", cells[at], at)
			}
		}
	}
	slices.SortFunc(l, func(x, y api.Span) int { return x.From - y.From })
	to := 0
	for _, s := range l {
		for i := range s.Size {
			must(t, "what was moved", cells[to+i], s.From+i)
		}
		to += s.Size
	}
}

// What a plan tells is new memory.
func TestPlanMemory(t *testing.T) {
	a := withHoles(t, 9, span(0, 2))
	l := []api.Span{span(5, 2), span(2, 2)}
	x, _ := a.Plan(l)
	y, _ := a.Plan(l)
	x[0] = Move{}
	_ = append(x[:1], Move{})
	mustList(t, "the other answer", y, []Move{{2, 0, 2}, {5, 2, 2}})
	l[0] = span(0, 0)
	mustList(t, "the other answer", y, []Move{{2, 0, 2}, {5, 2, 2}})
}
