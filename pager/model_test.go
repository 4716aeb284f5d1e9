package pager

import (
	"fmt"
	"math"
	"math/rand"
	"slices"
	"testing"

	"strongroom/api"
	"strongroom/disk"
	"strongroom/journal"
)

// facts are a whole state: each page's bytes by themselves, with noughts where a page is free.
type facts struct {
	serial uint64
	roots  [4]int
	used   [128]bool
	pages  [128]string
}

// told is all that a pager tells of its state, while the disk is up.
func told(t *testing.T, p *Pager) facts {
	t.Helper()
	f := facts{serial: p.Serial()}
	free := p.Pages()
	for k := range f.roots {
		f.roots[k] = p.Root(k)
	}
	for id := range p.Pages() {
		f.used[id] = p.Used(id)
		if !f.used[id] {
			mustNotRead(t, p, id, api.ErrNone)
			continue
		}
		free--
		if id > 0 {
			s, e := p.Read(id)
			must(t, "Read", e, api.OK)
			f.pages[id] = s
		}
	}
	must(t, "Free", p.Free(), free)
	return f
}

// point is a state to which a model can go back.
type point struct {
	facts
	written [128]bool // since the last Commit
}

// model is what a pager is to be, told in another way: with all pages, and all savepoints, as wholes.
type model struct {
	pages  int
	good   facts // behind the last Commit that told OK
	stands facts // on the disk
	now    point
	saves  []point
	down   bool
}

func newModel(pages int) *model {
	m := &model{pages: pages}
	m.good.used[0] = true
	m.stands, m.now.facts = m.good, m.good
	return m
}

func (m *model) reach(id int) api.Errno {
	switch {
	case id <= 0 || id >= m.pages:
		return api.ErrRange
	case !m.now.used[id]:
		return api.ErrNone
	}
	return api.OK
}

func (m *model) read(id int) (string, api.Errno) {
	if e := m.reach(id); e != api.OK {
		return "", e
	}
	if m.down && !m.now.written[id] {
		return "", api.ErrDown
	}
	return m.now.pages[id], api.OK
}

func (m *model) write(id int, s string) api.Errno {
	if e := m.reach(id); e != api.OK {
		return e
	}
	if len(s) != 1024 {
		return api.ErrArg
	}
	m.now.pages[id], m.now.written[id] = s, true
	return api.OK
}

func (m *model) alloc() (int, api.Errno) {
	id := slices.Index(m.now.used[:m.pages], false)
	if id < 0 {
		return 0, api.ErrFull
	}
	m.now.used[id], m.now.written[id], m.now.pages[id] = true, true, blank
	return id, api.OK
}

func (m *model) give(id int) api.Errno {
	if e := m.reach(id); e != api.OK {
		return e
	}
	for _, root := range m.now.roots {
		if root == id {
			return api.ErrState
		}
	}
	m.now.used[id], m.now.written[id], m.now.pages[id] = false, false, ""
	return api.OK
}

func (m *model) point(k, id int) api.Errno {
	if k < 0 || k > 3 {
		return api.ErrRange
	}
	if e := m.reach(id); id != 0 && e != api.OK {
		return e
	}
	m.now.roots[k] = id
	return api.OK
}

func (m *model) save() (int, api.Errno) {
	if len(m.saves) >= 16 {
		return 0, api.ErrFull
	}
	m.saves = append(m.saves, m.now)
	return len(m.saves) - 1, api.OK
}

func (m *model) back(n int) api.Errno {
	if n < 0 || n > len(m.saves)-1 {
		return api.ErrNone
	}
	m.now, m.saves = m.saves[n], m.saves[:n]
	return api.OK
}

// changed are the pages that differ from what stands on the disk; of a disk that is down, from what is good.
func (m *model) changed() []int {
	base := m.stands
	if m.down {
		base = m.good
	}
	var l []int
	for id := 1; id < m.pages; id++ {
		if m.now.used[id] && m.now.pages[id] != base.pages[id] {
			l = append(l, id)
		}
	}
	if len(l) > 0 || m.now.roots != base.roots || m.now.used != base.used || m.now.serial != base.serial {
		l = append([]int{0}, l...)
	}
	return l
}

// commit is done, if the disk bears it.
func (m *model) commit() {
	if len(m.changed()) > 0 {
		m.now.serial++
	}
	m.lay()
	m.abort()
}

// lay has what is there now good: of pages that are free the disk has what it had.
func (m *model) lay() {
	had := m.stands.pages
	m.good, m.stands = m.now.facts, m.now.facts
	for id := range m.pages {
		if !m.now.used[id] {
			m.good.pages[id], m.stands.pages[id] = had[id], had[id]
		}
	}
}

func (m *model) abort() {
	m.now, m.saves = point{facts: m.good}, nil
	for id := range m.pages {
		if !m.now.used[id] {
			m.now.pages[id] = ""
		}
	}
}

// mustBe holds all that a pager tells against a model.
func (m *model) mustBe(t *testing.T, p *Pager) {
	t.Helper()
	free := 0
	for id := -1; id <= m.pages; id++ {
		used := id >= 0 && id < m.pages && m.now.used[id]
		must(t, fmt.Sprint("Used ", id), p.Used(id), used)
		if id >= 0 && id < m.pages && !used {
			free++
		}
		got, e := p.Read(id)
		want, f := m.read(id)
		if got != want || e != f {
			t.Fatalf("Read(%d): %.20q, %v, not %.20q, %v", id, got, e, want, f)
		}
	}
	must(t, "Pages", p.Pages(), m.pages)
	must(t, "Free", p.Free(), free)
	must(t, "Serial", p.Serial(), m.now.serial)
	mustHaveRoots(t, p, m.now.roots[:]...)
	mustChange(t, p, m.changed()...)
}

// rig is a pager on a disk, and a model of it.
type rig struct {
	d *disk.Disk
	p *Pager
	m *model
}

// step does something, and holds the answers against each other.
func (g *rig) step(t *testing.T, r *rand.Rand) {
	t.Helper()
	id := r.Intn(g.m.pages+2) - 1
	switch r.Intn(16) {
	case 0, 1, 2, 3:
		s := []string{blank, page(id), page(1), page(r.Intn(3)), page(7)[:1023], ""}[r.Intn(6)]
		must(t, "Write", g.p.Write(id, s), g.m.write(id, s))
	case 4, 5, 6:
		n, e := g.p.Alloc()
		want, f := g.m.alloc()
		must(t, "Alloc", n, want)
		must(t, "Alloc", e, f)
	case 7, 8:
		must(t, "Give", g.p.Give(id), g.m.give(id))
	case 9, 10:
		k := r.Intn(6) - 1
		if r.Intn(3) == 0 {
			id = 0
		}
		must(t, "Point", g.p.Point(k, id), g.m.point(k, id))
	case 11:
		n, e := g.p.Save()
		want, f := g.m.save()
		must(t, "Save", n, want)
		must(t, "Save", e, f)
	case 12:
		n := r.Intn(len(g.m.saves)+2) - 1
		must(t, "Back", g.p.Back(n), g.m.back(n))
	case 13:
		g.commit(t)
	case 14:
		g.p.Abort()
		if !g.m.down {
			g.m.abort()
		}
	case 15:
		g.power(t, r)
	}
}

func (g *rig) commit(t *testing.T) {
	t.Helper()
	writes := g.d.Writes()
	e := g.p.Commit()
	if g.m.down {
		must(t, "Commit", e, api.ErrDown)
		return
	}
	must(t, "Commit", e, api.OK)
	want := 0
	if l := g.m.changed(); len(l) > 0 {
		want = 8*len(l) + 2
	}
	must(t, "writes", g.d.Writes()-writes, want)
	g.m.commit()
}

// power has the power fail, at times amid a Commit, or come back.
func (g *rig) power(t *testing.T, r *rand.Rand) {
	t.Helper()
	switch {
	case g.m.down:
		g.up(t, r)
	case r.Intn(2) == 0:
		g.d.Fail(nil)
		g.m.down = true
	default:
		l := g.m.changed()
		if len(l) == 0 {
			return
		}
		must(t, "Fuse", g.d.Fuse(1+r.Intn(8*len(l)+2)), api.OK)
		must(t, "Commit", g.p.Commit(), api.ErrDown)
		g.m.down = true
	}
}

// up has the power come back, and the journal done to its end. Then the same pager goes on: what stands on the disk may be
// that of a Commit which it was told to be broken off.
func (g *rig) up(t *testing.T, r *rand.Rand) {
	t.Helper()
	picks := make([]bool, g.d.Waits())
	for i := range picks {
		picks[i] = r.Intn(2) == 0
	}
	restart(t, g.d, picks)
	j := mustJournal(t, g.d, g.m.pages)
	g.m.down = false
	g.m.stands = standing(t, j)
}

// standing is what a journal's pages tell.
func standing(t *testing.T, j *journal.Journal) facts {
	t.Helper()
	f := told(t, mustOpen(t, j))
	for id := 1; id < j.Pages(); id++ {
		s, e := j.Read(id)
		must(t, "Read", e, api.OK)
		f.pages[id] = s
	}
	return f
}

// 14.1 to 14.6: pagers held against a model at each step, also while the disk is down, and behind Commits that were
// broken off.
func TestModel(t *testing.T) {
	for seed := range int64(60) {
		r := rand.New(rand.NewSource(seed))
		pages := []int{2, 3, 5, 9, 17}[seed%5]
		d := mustDisk(t, pages)
		g := &rig{d, mustOpen(t, mustJournal(t, d, pages)), newModel(pages)}
		for id := 1; id < pages; id++ {
			g.m.good.pages[id], g.m.stands.pages[id] = blank, blank
		}
		for range 1500 {
			g.step(t, r)
			g.m.mustBe(t, g.p)
			if r.Intn(100) == 0 && !g.m.down {
				g.p = again(t, d, pages)
				g.m.good = g.m.stands
				g.m.abort()
				g.m.mustBe(t, g.p)
			}
		}
	}
}

// 14.1 to 14.5, P1: no call panics, whatever it is given, and what is refused changes nothing.
func TestNoPanic(t *testing.T) {
	r := rand.New(rand.NewSource(5))
	odd := []int{math.MinInt, math.MinInt + 1, -1 << 32, -256, -1, 0, 1, 2, 3, 4, 15, 16, 127, 128, 1 << 16, 1 << 32, math.MaxInt - 1, math.MaxInt}
	p, d := fresh(t, 4)
	for range 5000 {
		a, b := odd[r.Intn(len(odd))], odd[r.Intn(len(odd))]
		was := told(t, p)
		refused := true
		switch r.Intn(9) {
		case 0:
			_, e := p.Read(a)
			refused = e != api.OK
		case 1:
			refused = p.Write(a, page(r.Intn(9))[:max(0, min(b, 1024))]) != api.OK
		case 2:
			_, e := p.Alloc()
			refused = e != api.OK
		case 3:
			refused = p.Give(a) != api.OK
		case 4:
			refused = p.Point(a, b) != api.OK
		case 5:
			p.Root(a)
			p.Used(b)
		case 6:
			p.Save()
		case 7:
			refused = p.Back(a) != api.OK
		case 8:
			refused = p.Commit() != api.OK
		}
		if refused && told(t, p) != was {
			t.Fatal("another state")
		}
	}
	must(t, "Up", d.Up(), true)
}

// scene is a pager, and what is made of it by a Commit.
type scene struct {
	pages  int
	before func(p *Pager)
	change func(p *Pager)
}

// fill has pages used, and written.
func fill(p *Pager, n int) {
	for range n {
		id, _ := p.Alloc()
		p.Write(id, page(id))
	}
}

// scenes change the head alone, one page and many.
var scenes = map[string]scene{
	"the first page":     {2, func(p *Pager) {}, func(p *Pager) { fill(p, 1) }},
	"a page of noughts":  {3, func(p *Pager) {}, func(p *Pager) { p.Alloc() }},
	"a root":             {3, func(p *Pager) { fill(p, 2) }, func(p *Pager) { p.Point(3, 2) }},
	"one page's bytes":   {3, func(p *Pager) { fill(p, 2) }, func(p *Pager) { p.Write(2, page(9)) }},
	"a page less":        {3, func(p *Pager) { fill(p, 2) }, func(p *Pager) { p.Give(1) }},
	"a page comes again": {3, func(p *Pager) { fill(p, 2) }, func(p *Pager) { p.Give(1); p.Alloc() }},
	"all pages":          {9, func(p *Pager) { fill(p, 8) }, func(p *Pager) { change(p, 1, 8) }},
	"some of each": {9, func(p *Pager) { fill(p, 5); p.Point(0, 1); p.Point(1, 5) }, func(p *Pager) {
		p.Point(0, 5)
		p.Give(1)
		p.Give(3)
		fill(p, 3)
		p.Write(2, page(22))
		p.Point(2, 3)
	}},
	"savepoints between": {6, func(p *Pager) { fill(p, 3) }, func(p *Pager) {
		p.Write(1, page(11))
		n, _ := p.Save()
		p.Give(2)
		fill(p, 2)
		p.Back(n)
		p.Write(3, page(33))
	}},
}

// change has pages other bytes.
func change(p *Pager, first, last int) {
	for id := first; id <= last; id++ {
		p.Write(id, page(id+100))
	}
}

// 14.6: behind a failure at any write of a Commit, whatever is picked, the pager that is opened then has the state ahead
// of it, or that behind it; that behind it, if Commit told OK. So it is also if the power fails amid the recovery.
func TestFailures(t *testing.T) {
	for name, c := range scenes {
		t.Run(name, func(t *testing.T) {
			r := rand.New(rand.NewSource(1))
			p, d := fresh(t, c.pages)
			c.before(p)
			mustCommit(t, p)
			old := told(t, p)
			c.change(p)
			next := told(t, p)
			next.serial++
			seen := map[bool]int{}
			for fuse := 1; ; fuse++ {
				f := d.Clone()
				p := again(t, f, c.pages)
				c.change(p)
				must(t, "Fuse", f.Fuse(fuse), api.OK)
				if p.Commit() == api.OK {
					must(t, "Fuse", f.Fuse(0), api.OK)
					must(t, "what is good", told(t, p) == next, true)
					restart(t, f, nil)
					must(t, "what is opened", told(t, again(t, f, c.pages)) == next, true)
					break
				}
				must(t, "Up", f.Up(), false)
				must(t, "Serial", p.Serial(), old.serial)
				for _, picks := range choices(r, f.Waits()) {
					g := f.Clone()
					restart(t, g, picks)
					seen[mustBeEither(t, r, g, c.pages, old, next)]++
				}
			}
			if seen[false] == 0 || seen[true] == 0 {
				t.Fatalf("the old state %d times, the new one %d times", seen[false], seen[true])
			}
		})
	}
}

// choices are which writes of so many are picked: all choices of a few, some of many.
func choices(r *rand.Rand, n int) [][]bool {
	var l [][]bool
	if n <= 5 {
		for bits := range 1 << n {
			picks := make([]bool, n)
			for i := range picks {
				picks[i] = bits>>i&1 == 1
			}
			l = append(l, picks)
		}
		return l
	}
	l = append(l, nil, slices.Repeat([]bool{true}, n))
	for range 20 {
		picks := make([]bool, n)
		for i := range picks {
			picks[i] = r.Intn(2) == 0
		}
		l = append(l, picks)
	}
	return l
}

// mustBeEither has a pager opened again, at times with the power failing amid that, and tells whether it has the new state.
func mustBeEither(t *testing.T, r *rand.Rand, d *disk.Disk, pages int, old, next facts) bool {
	t.Helper()
	if r.Intn(2) == 0 {
		must(t, "Fuse", d.Fuse(1+r.Intn(9)), api.OK)
		if _, e := journal.Open(d, pages); e == api.OK {
			must(t, "Fuse", d.Fuse(0), api.OK)
		} else {
			restart(t, d, choices(r, d.Waits())[0])
		}
	}
	got := told(t, again(t, d, pages))
	if got != old && got != next {
		t.Fatal("neither the state ahead of the Commit, nor that behind it")
	}
	return got == next
}

// 14.5, 14.6: a pager whose Commit was broken off goes on by what it was: it goes back, aborts, or commits all again,
// whatever that Commit left on the disk.
func TestAfterABrokenCommit(t *testing.T) {
	ends := map[string]func(t *testing.T, p *Pager){
		"once more": func(t *testing.T, p *Pager) {},
		"back":      func(t *testing.T, p *Pager) { mustBack(t, p, 0) },
		"aborted":   func(t *testing.T, p *Pager) { p.Abort() },
	}
	for name, end := range ends {
		for fuse := 1; ; fuse++ {
			p, d := fresh(t, 6)
			fill(p, 3)
			mustCommit(t, p)
			good := told(t, p)
			p.Write(1, page(11))
			mustSave(t, p, 0)
			saved := told(t, p)
			p.Give(2)
			fill(p, 2)
			p.Point(1, 4)
			p.Write(3, page(33))
			now, l := told(t, p), p.Changed()
			must(t, "Fuse", d.Fuse(fuse), api.OK)
			if p.Commit() == api.OK {
				must(t, "writes of a Commit", fuse, 8*4+2+1) // the head and three pages: one that was given, and comes again, is written as it was
				break
			}
			mustChange(t, p, l...)
			restart(t, d, slices.Repeat([]bool{fuse%2 == 1}, d.Waits()))
			mustJournal(t, d, 6)
			must(t, name+": what is there now", told(t, p) == now, true)
			end(t, p)
			want := map[string]facts{"once more": now, "back": saved, "aborted": good}[name]
			must(t, name, told(t, p) == want, true)
			mustCommit(t, p)
			want.serial = p.Serial()
			must(t, name+", committed", told(t, p) == want, true)
			must(t, name+", opened again", told(t, again(t, d, 6)) == want, true)
			mustChange(t, p)
			p.Abort()
			must(t, name+", aborted behind it", told(t, p) == want, true)
		}
	}
}
