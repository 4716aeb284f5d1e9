package btree

import (
	"fmt"
	"maps"
	"math/rand"
	"strings"
	"testing"

	"strongroom/api"
	"strongroom/disk"
	"strongroom/pager"
)

// tables are what the four trees of a pager are to have.
type tables [4]table

func (m tables) clone() tables {
	for k := range m {
		m[k] = maps.Clone(m[k])
	}
	return m
}

// rig is a pager with a tree below each of its roots, and what these are to have.
type rig struct {
	pages int
	disk  *disk.Disk
	pager *pager.Pager
	trees [4]*Tree
	now   tables
	good  tables
	saves []tables
	key   func(r *rand.Rand) string
	value func(r *rand.Rand) string
}

func newRig(t *testing.T, pages int) *rig {
	t.Helper()
	g := &rig{pages: pages, disk: mustDisk(t, pages)}
	g.good = tables{{}, {}, {}, {}}
	g.now = g.good.clone()
	g.open(t)
	return g
}

// open has the journal, the pager and the trees opened anew.
func (g *rig) open(t *testing.T) {
	t.Helper()
	g.pager = mustPager(t, g.disk, g.pages)
	for k := range g.trees {
		g.trees[k] = mustOpen(t, g.pager, k)
	}
}

// mustBe holds all that the pages and the trees tell against the tables.
func (g *rig) mustBe(t *testing.T) {
	t.Helper()
	used := map[int]bool{}
	for k, b := range g.trees {
		s := look(t, g.pager, k)
		if !maps.Equal(s.entries, g.now[k]) {
			t.Fatalf("the tree %d has %d entries, not those %d", k, len(s.entries), len(g.now[k]))
		}
		must(t, "Height", b.Height(), s.height)
		must(t, "bare pages", s.bare, 0)
		mustHave(t, b, g.now[k])
		maps.Copy(used, s.pages)
	}
	must(t, "Free", g.pager.Free(), g.pages-1-len(used)) // so none is lost, and none in two trees
}

// ask holds what a tree tells of some keys against its table.
func (g *rig) ask(t *testing.T, r *rand.Rand, k int) {
	t.Helper()
	b, m := g.trees[k], g.now[k]
	key, to, n := g.key(r), g.key(r), r.Intn(12)-1
	v, ok := b.Get(key)
	want, there := m[key]
	if v != want || ok != there {
		t.Fatalf("Get(%.8q): %.8q, %v", key, v, ok)
	}
	var within, below, above []api.Pair
	for _, x := range m.pairs() {
		if x.Key >= key && x.Key <= to && len(within) < n {
			within = append(within, x)
		}
		if x.Key < key {
			below = append(below, x)
		}
		if x.Key > key {
			above = append(above, x)
		}
	}
	must(t, "Range", fmt.Sprint(b.Range(key, to, n)), fmt.Sprint(within))
	x, ok := b.Next(key)
	if ok != (len(above) > 0) || ok && x != above[0] || !ok && x != (api.Pair{}) {
		t.Fatalf("Next(%.8q): %.8q, %v", key, x, ok)
	}
	x, ok = b.Prev(key)
	if ok != (len(below) > 0) || ok && x != below[len(below)-1] || !ok && x != (api.Pair{}) {
		t.Fatalf("Prev(%.8q): %.8q, %v", key, x, ok)
	}
}

// put holds a Put's answer, and how many pages it takes, against the words.
func (g *rig) put(t *testing.T, k int, key, value string) {
	t.Helper()
	height, free := look(t, g.pager, k).height, g.pager.Free()
	want := api.OK
	if free < height+1 {
		want = api.ErrFull
	}
	must(t, "Put", g.trees[k].Put(key, value), want)
	must(t, "pages more", free-g.pager.Free() <= height+1, true)
	if want == api.OK {
		g.now[k][key] = value
	}
}

func (g *rig) drop(t *testing.T, k int, key string) {
	t.Helper()
	free := g.pager.Free()
	_, there := g.now[k][key]
	must(t, "Drop", g.trees[k].Drop(key), there)
	must(t, "pages more", g.pager.Free() < free, false)
	delete(g.now[k], key)
}

// some is a key that a table has, or any other one.
func (g *rig) some(r *rand.Rand, k int) string {
	if l := g.now[k].pairs(); len(l) > 0 && r.Intn(4) > 0 {
		return l[r.Intn(len(l))].Key
	}
	return g.key(r)
}

// step does something to one of the trees, or to all by the pager.
func (g *rig) step(t *testing.T, r *rand.Rand, grow bool) {
	t.Helper()
	k := r.Intn(4) * r.Intn(2) // the first one more often
	switch n := r.Intn(100); {
	case n < 60 && grow, n < 20:
		g.put(t, k, g.key(r), g.value(r))
	case n < 70 && grow, n < 30:
		g.put(t, k, g.some(r, k), g.value(r))
	case n < 85:
		g.drop(t, k, g.some(r, k))
	case n < 88:
		n, e := g.pager.Save()
		if len(g.saves) == 16 {
			must(t, "Save", e, api.ErrFull)
			return
		}
		must(t, "Save", n, len(g.saves))
		g.saves = append(g.saves, g.now.clone())
	case n < 91 && len(g.saves) > 0:
		n := r.Intn(len(g.saves))
		must(t, "Back", g.pager.Back(n), api.OK)
		g.now, g.saves = g.saves[n], g.saves[:n]
	case n < 93:
		must(t, "Commit", g.pager.Commit(), api.OK)
		g.good, g.saves = g.now.clone(), nil
	case n == 93:
		g.pager.Abort()
		g.now, g.saves = g.good.clone(), nil
	case n == 94:
		g.fail(t, r)
	case n == 95 && r.Intn(4) == 0:
		g.trees[k].Clear()
		g.now[k] = table{}
	default:
		g.ask(t, r, k)
	}
}

// fail has the power fail amid a Commit, or behind it; what is opened then has all of the changes, or none.
func (g *rig) fail(t *testing.T, r *rand.Rand) {
	t.Helper()
	must(t, "Fuse", g.disk.Fuse(1+r.Intn(60)), api.OK)
	e := g.pager.Commit()
	picks := make([]bool, g.disk.Waits())
	for i := range picks {
		picks[i] = r.Intn(2) == 0
	}
	restart(t, g.disk, picks)
	g.open(t)
	g.saves = nil
	done := true
	for k, m := range g.now {
		done = done && maps.Equal(look(t, g.pager, k).entries, m)
	}
	if e == api.OK {
		must(t, "what was committed is there", done, true)
	}
	if !done {
		g.now = g.good.clone()
	}
	g.good = g.now.clone()
	g.mustBe(t)
}

// shapes are sorts of keys.
var shapes = map[string]func(r *rand.Rand) string{
	"short": func(r *rand.Rand) string { return fmt.Sprintf("%c%c", 'a'+r.Intn(26), 'a'+r.Intn(26)) },
	"bytes": func(r *rand.Rand) string {
		b := make([]byte, 1+r.Intn(64))
		r.Read(b)
		return string(b)
	},
	"alike": func(r *rand.Rand) string { return strings.Repeat("k", 60) + fmt.Sprintf("%04d", r.Intn(1000)) },
	"noughts": func(r *rand.Rand) string {
		return strings.Repeat("\x00", 1+r.Intn(40)) + strings.Repeat("\xff", r.Intn(25))
	},
	"nested": func(r *rand.Rand) string { return strings.Repeat("ab", 32)[:1+r.Intn(64)] },
}

// values are sorts of values.
var values = map[string]func(r *rand.Rand) string{
	"any":   func(r *rand.Rand) string { return strings.Repeat(string(rune('a'+r.Intn(26))), r.Intn(401)) },
	"long":  func(r *rand.Rand) string { return strings.Repeat(string(rune('a'+r.Intn(26))), 400-r.Intn(9)) },
	"short": func(r *rand.Rand) string { return strings.Repeat("v", r.Intn(9)) },
	"edges": func(r *rand.Rand) string { return strings.Repeat("v", []int{0, 1, 255, 256, 257, 400}[r.Intn(6)]) },
}

// 15.1 to 15.4: trees held against tables, and their pages against the chapter's words, whatever is done to them.
func TestModel(t *testing.T) {
	for shape, key := range shapes {
		for sort, value := range values {
			t.Run(shape+" "+sort, func(t *testing.T) {
				for i, pages := range []int{2, 3, 6, 16, 60, 128} {
					r := rand.New(rand.NewSource(int64(i)))
					g := newRig(t, pages)
					g.key, g.value = key, value
					for n := range 240 {
						g.step(t, r, n%120 < 75)
						if pages <= 12 || n%10 == 0 {
							g.mustBe(t)
						}
					}
					for k, m := range g.now {
						for x := range maps.Clone(m) {
							g.drop(t, k, x)
						}
					}
					g.mustBe(t)
					must(t, "Free", g.pager.Free(), pages-1)
				}
			})
		}
	}
}

// 15.2 to 15.4: one tree that grows until it is full, and goes again, several times; its pages are looked at at each step.
func TestGrowAndGo(t *testing.T) {
	for shape, key := range shapes {
		t.Run(shape, func(t *testing.T) {
			r := rand.New(rand.NewSource(1))
			g := newRig(t, 60)
			g.key, g.value = key, values["any"]
			for range 2 {
				for range 300 {
					g.put(t, 0, g.key(r), g.value(r))
					g.ask(t, r, 0)
				}
				g.mustBe(t)
				for x := range maps.Clone(g.now[0]) {
					g.drop(t, 0, x)
					g.ask(t, r, 0)
				}
				g.mustBe(t)
			}
		})
	}
}

// 15.4: behind a failure at each write of a Commit, whatever is picked, all trees have what they had ahead of it, or what
// they had behind it.
func TestFailures(t *testing.T) {
	r := rand.New(rand.NewSource(1))
	g := newRig(t, 12)
	g.key, g.value = shapes["alike"], values["any"]
	for range 12 {
		g.put(t, r.Intn(2), g.key(r), g.value(r))
	}
	mustCommit(t, g.pager)
	g.good = g.now.clone()
	change := func(trees [4]*Tree) {
		for k, m := range g.good {
			for i, x := range m.pairs() {
				if i%2 == 0 {
					trees[k].Drop(x.Key)
				}
			}
		}
		mustPut(t, trees[2], "new", "x")
	}
	change(g.trees)
	for k := range g.now {
		g.now[k] = look(t, g.pager, k).entries
	}
	g.pager.Abort()
	seen := map[bool]int{}
	for fuse := 1; ; fuse++ {
		done := false
		for try := range 6 {
			f := &rig{pages: g.pages, disk: g.disk.Clone()}
			f.open(t)
			change(f.trees)
			must(t, "Fuse", f.disk.Fuse(fuse), api.OK)
			done = f.pager.Commit() == api.OK
			restart(t, f.disk, picksOf(r, f.disk.Waits(), try))
			f.open(t)
			behind := len(look(t, f.pager, 2).entries) == 1
			f.now = g.good
			if behind {
				f.now = g.now
			}
			f.mustBe(t)
			must(t, "what was committed is there", behind || !done, true)
			seen[behind]++
		}
		if done {
			break
		}
	}
	must(t, "both", seen[false] > 0 && seen[true] > 0, true)
}

// picksOf picks none, all, or some of the writes that wait.
func picksOf(r *rand.Rand, waits, try int) []bool {
	l := make([]bool, waits)
	for i := range l {
		l[i] = try == 1 || try > 1 && r.Intn(2) == 0
	}
	return l
}

// callAll calls all that a tree has.
func callAll(b *Tree, r *rand.Rand) {
	key, to := shapes["short"](r), shapes["nested"](r)
	b.Get(key)
	b.Range(key, to, r.Intn(20))
	b.Range("", most, 1<<40)
	b.Next(key)
	b.Prev(key)
	b.Len()
	b.Height()
	b.Check()
	switch r.Intn(8) {
	case 0:
		b.Clear()
	case 1, 2:
		b.Drop(key)
	default:
		b.Put(key, values["any"](r))
	}
}

// P1: all calls end, and none panics, whatever becomes of the pages below a tree.
func TestNoPanic(t *testing.T) {
	for seed := range int64(300) {
		r := rand.New(rand.NewSource(seed))
		b, p, _ := fresh(t, 20)
		for range 60 {
			b.Put(shapes["short"](r), values["any"](r))
		}
		for range 40 {
			id := 1 + r.Intn(19)
			text, e := p.Read(id)
			if e != api.OK {
				p.Alloc()
				continue
			}
			switch r.Intn(5) {
			case 0:
				p.Write(id, with(text, r.Intn(1024), byte(r.Intn(256))))
			case 1:
				p.Write(id, with(text, r.Intn(12), byte(r.Intn(20))))
			case 2:
				other, _ := p.Read(1 + r.Intn(19))
				p.Write(id, other)
			case 3:
				p.Give(id)
			case 4:
				p.Point(0, id)
			}
			if b.Check() == api.OK { // then it is a table like any other
				n := b.Len()
				must(t, "Range", len(b.Range("", most, 1<<40)), n)
				must(t, "entries", len(look(t, p, 0).entries), n)
			}
			callAll(b, r)
		}
	}
}

// P1: so it is of pages that stand below themselves, however often.
func TestCircles(t *testing.T) {
	circle := func(ids ...uint16) string {
		var l []branch
		for i := range 250 {
			l = append(l, branch{string([]byte{byte(i + 1)}), ids[i%len(ids)]})
		}
		return innerOf(ids[0], l...)
	}
	for _, texts := range [][]string{
		{circle(1)},
		{circle(2), circle(3), circle(4), circle(1)},
		{circle(2, 3), circle(3, 4), circle(4, 2), circle(2, 3, 4)},
		{innerOf(2), innerOf(1)},
		{circle(2, 3), leafOf("a", "x"), circle(2, 3)},
	} {
		p, _ := laid(t, texts...)
		mustRefuse(t, p, 0, api.ErrForm)
		b := mustNew(p, 0)
		r := rand.New(rand.NewSource(1))
		for range 30 {
			callAll(b, r)
		}
		must(t, "Check", b.Check(), api.ErrForm)
		must(t, "Len", b.Len(), 0)
		must(t, "Range", len(b.Range("", most, 9)), 0)
		b.Clear()
		must(t, "Root", p.Root(0), 1)
	}
}
