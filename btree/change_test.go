package btree

import (
	"fmt"
	"math"
	"math/rand"
	"slices"
	"strings"
	"testing"

	"strongroom/api"
	"strongroom/disk"
	"strongroom/pager"
)

// The chapter's example.
func TestExample(t *testing.T) {
	b, p, _ := fresh(t, 4)
	mustPut(t, b, "a", "x")
	must(t, "Height", b.Height(), 1)
	must(t, "Free", p.Free(), 2)
	must(t, "Drop", b.Drop("a"), true)
	must(t, "Height", b.Height(), 0)
	must(t, "Free", p.Free(), 3)
	must(t, "Root", p.Root(0), 0)
}

// 15.2: which keys and values there are; ErrArg goes ahead of ErrFull, and nothing is changed.
func TestPutArg(t *testing.T) {
	key, value := strings.Repeat("k", 64), strings.Repeat("v", 400)
	b, p, _ := fresh(t, 4)
	refuse := func() {
		t.Helper()
		must(t, "Put of no key", b.Put("", "x"), api.ErrArg)
		must(t, "Put of a long key", b.Put(key+"k", "x"), api.ErrArg)
		must(t, "Put of a long value", b.Put("a", value+"v"), api.ErrArg)
		must(t, "Put of both", b.Put(key+"k", value+"v"), api.ErrArg)
	}
	refuse()
	must(t, "Height", b.Height(), 0)
	must(t, "Free", p.Free(), 3)
	mustPut(t, b, key, value)
	mustPut(t, b, "\x00", "")
	p.Alloc()
	must(t, "Free", p.Free(), 1)
	must(t, "Put", b.Put("a", "x"), api.ErrFull)
	refuse()
	mustHave(t, b, table{key: value, "\x00": ""})
	mustGet(t, b, key, value)
	mustGet(t, b, "\x00", "")
}

// grown is a tree of some height below the root 0 of a pager of 128 pages.
func grown(t *testing.T, height int) (*Tree, *pager.Pager, table) {
	t.Helper()
	b, p, _ := fresh(t, 128)
	m := table{}
	for i := 0; b.Height() < height; i++ {
		key := strings.Repeat("k", 60) + fmt.Sprintf("%04d", i*7919%10000)
		m[key] = strings.Repeat("v", 400)
		mustPut(t, b, key, m[key])
	}
	return b, p, m
}

// 15.2: a Put is refused if fewer pages are free than the height and one, whatever it would need.
func TestPutFull(t *testing.T) {
	for height := range 4 {
		b, p, m := grown(t, height)
		must(t, "Height", b.Height(), height)
		for p.Free() > height+1 {
			_, e := p.Alloc()
			must(t, "Alloc", e, api.OK)
		}
		n, e := p.Save()
		must(t, "Save", e, api.OK)
		mustPut(t, b, "new", "")
		m["new"] = ""
		mustHave(t, b, m)
		delete(m, "new")
		must(t, "Back", p.Back(n), api.OK)
		for p.Free() > 0 {
			p.Alloc()
			free := p.Free()
			must(t, "Put of a new one", b.Put("new", ""), api.ErrFull)
			for k, v := range m {
				must(t, "Put of the same", b.Put(k, v), api.ErrFull)
				must(t, "Put of a shorter one", b.Put(k, ""), api.ErrFull)
			}
			must(t, "Free", p.Free(), free)
			mustHave(t, b, m)
		}
	}
}

// 15.2, 15.3: a Drop needs no page.
func TestDropFull(t *testing.T) {
	b, p, m := grown(t, 3)
	for p.Free() > 0 {
		p.Alloc()
	}
	free := 0
	for _, x := range m.pairs() {
		must(t, "Drop", b.Drop(x.Key), true)
		must(t, "Drop again", b.Drop(x.Key), false)
		delete(m, x.Key)
		mustHave(t, b, m)
		must(t, "no page more", p.Free() >= free, true)
		free = p.Free()
	}
	must(t, "Root", p.Root(0), 0)
}

// 15.2: Get and Drop of keys that aren't there, such as may not be too.
func TestLack(t *testing.T) {
	b, _, _ := fresh(t, 24)
	lacks := []string{"", "a", "ac", "b\x00", "bb", "c", "\xff", "\x00", strings.Repeat("b", 64), strings.Repeat("b", 65), most}
	for height := range 3 {
		must(t, "Height", b.Height(), height)
		for _, key := range lacks {
			mustLack(t, b, key)
			must(t, "Drop", b.Drop(key), false)
		}
		for i := 0; height < 2 && b.Height() == height; i++ {
			mustPut(t, b, "b", "x")
			mustPut(t, b, fmt.Sprintf("aa%d", i), strings.Repeat("v", 300))
			mustPut(t, b, fmt.Sprintf("ba%d", i), strings.Repeat("v", 300))
		}
		mustGet(t, b, "b", "x")
	}
}

// 15.2: ranges at their edges, and steps from key to key.
func TestRangeAndSteps(t *testing.T) {
	b, _, _ := fresh(t, 24)
	mustKeys(t, b, "", most, 9, "")
	mustNext(t, b, "", "")
	mustPrev(t, b, most, "")
	for _, size := range []int{1, 350} { // in one page, and in several
		for _, key := range []string{"d", "b", "bb", "f"} {
			mustPut(t, b, key, strings.Repeat("v", size))
		}
		mustKeys(t, b, "", most, math.MaxInt, "b bb d f")
		mustKeys(t, b, "b", "f", 9, "b bb d f")
		mustKeys(t, b, "b\x00", "e\xff", 9, "bb d")
		mustKeys(t, b, "bb", "d", 9, "bb d")
		mustKeys(t, b, "bb", "d", 2, "bb d")
		mustKeys(t, b, "bb", "d", 1, "bb")
		mustKeys(t, b, "d", "d", 1, "d")
		mustKeys(t, b, "c", "c", 1, "")
		mustKeys(t, b, "g", most, 1, "")
		mustKeys(t, b, "", "a", 1, "")
		mustKeys(t, b, "", "", 1, "")
		mustKeys(t, b, "f", "b", 9, "")
		mustKeys(t, b, most, "", 9, "")
		for _, n := range []int{0, -1, math.MinInt} {
			mustKeys(t, b, "", most, n, "")
		}
		for _, x := range [][3]string{
			{"", "", "b"}, {"a", "", "b"}, {"b", "", "bb"}, {"b\x00", "b", "bb"}, {"bb", "b", "d"}, {"c", "bb", "d"},
			{"d", "bb", "f"}, {"d\x00", "d", "f"}, {"f", "d", ""}, {"f\x00", "f", ""}, {"g", "f", ""}, {most, "f", ""},
			{"b" + most, "bb", "d"}, {"\x00", "", "b"},
		} {
			mustPrev(t, b, x[0], x[1])
			mustNext(t, b, x[0], x[2])
		}
	}
	must(t, "in several pages", b.Height() > 1, true)
	x, _ := b.Next("a")
	must(t, "the value", x.Value, strings.Repeat("v", 350))
	x, _ = b.Prev("z")
	must(t, "the value", x.Value, strings.Repeat("v", 350))
}

// 15.2: a range is new memory.
func TestRangeNewMemory(t *testing.T) {
	b, _, _ := fresh(t, 4)
	mustPut(t, b, "a", "x")
	mustPut(t, b, "b", "y")
	l := b.Range("a", "b", 2)
	l[0], l[1] = api.Pair{}, api.Pair{}
	_ = append(l[:0], api.Pair{Key: "c"}, api.Pair{Key: "d"}, api.Pair{Key: "e"})
	mustHave(t, b, table{"a": "x", "b": "y"})
}

// 15.2: Clear has all pages of the tree free, and no others.
func TestClear(t *testing.T) {
	for height := range 4 {
		b, p, _ := grown(t, height)
		other := mustOpen(t, p, 2)
		mustPut(t, other, "a", "x")
		id, e := p.Alloc() // of no tree
		must(t, "Alloc", e, api.OK)
		for range 2 {
			b.Clear()
			must(t, "Height", b.Height(), 0)
			must(t, "Root", p.Root(0), 0)
			must(t, "Free", p.Free(), 125)
			must(t, "Used", p.Used(id), true)
			mustHave(t, b, nil)
			mustHave(t, other, table{"a": "x"})
		}
		mustPut(t, b, "b", "y")
		mustHave(t, b, table{"b": "y"})
	}
}

// 15.2: a nil tree.
func TestNil(t *testing.T) {
	var b *Tree
	mustLack(t, b, "a")
	must(t, "Put", b.Put("a", "x"), api.ErrArg)
	must(t, "Put", b.Put("", "x"), api.ErrArg)
	must(t, "Drop", b.Drop("a"), false)
	must(t, "Range", len(b.Range("", most, 9)), 0)
	mustNext(t, b, "", "")
	mustPrev(t, b, most, "")
	must(t, "Len", b.Len(), 0)
	must(t, "Height", b.Height(), 0)
	b.Clear()
	must(t, "Check", b.Check(), api.ErrArg)
}

// 15.2, 15.3: an inner page from which all pages but one go beside one that is full has room made for it; a table that
// is dropped from either end leaves nothing behind.
func TestDropFromEnds(t *testing.T) {
	bare := 0
	for seed := range int64(12) {
		r := rand.New(rand.NewSource(seed))
		b, p, _ := fresh(t, 128)
		m := table{}
		for p.Free() > b.Height()+1 {
			key := strings.Repeat("k", 59) + fmt.Sprintf("%05d", r.Intn(100000))
			m[key] = strings.Repeat("v", 300+r.Intn(100))
			mustPut(t, b, key, m[key])
		}
		must(t, "Height", b.Height() >= 3, true)
		l := m.pairs()
		if seed%2 == 1 {
			slices.Reverse(l)
		}
		for _, x := range l {
			free := p.Free()
			must(t, "Drop", b.Drop(x.Key), true)
			delete(m, x.Key)
			must(t, "no page more", p.Free() >= free, true)
			s := look(t, p, 0)
			must(t, "entries", len(s.entries), len(m))
			must(t, "pages", len(s.pages), 127-p.Free())
			must(t, "Height", b.Height(), s.height)
			bare += s.bare
		}
		must(t, "Free", p.Free(), 127)
	}
	must(t, "bare pages", bare, 0)
}

// padded is a text, and as many more bytes as a length needs.
func padded(text string, length int) string {
	return text + strings.Repeat("-", length-len(text))
}

// beside is a tree whose last inner page has two leaves, beside one that is full, below a root whose last key but one is
// so long.
func beside(t *testing.T, length int) (*Tree, *pager.Pager, *disk.Disk) {
	t.Helper()
	d := mustDisk(t, 128)
	p := mustPager(t, d, 128)
	lay := func(text string) uint16 {
		id, e := p.Alloc()
		must(t, "Alloc", e, api.OK)
		must(t, "Write", p.Write(id, text), api.OK)
		return uint16(id)
	}
	leaf := func(key string) uint16 { return lay(leafOf(key, "")) }
	var top, full []branch
	first := lay(innerOf(leaf("a")))
	for i := range 14 {
		key := padded(string(rune('b'+i)), 64)
		top = append(top, branch{key, lay(innerOf(leaf(key)))})
	}
	key := padded("p", length)
	begin := leaf(key)
	for i := range 15 {
		key := padded(fmt.Sprintf("q%02d", i), 64)
		full = append(full, branch{key, leaf(key)})
	}
	full = append(full, branch{padded("r", 11), leaf("s")})
	top = append(top, branch{key, lay(innerOf(begin, full...))})
	top = append(top, branch{"z", lay(innerOf(leaf("z0"), branch{"z1", leaf("z1")}))})
	must(t, "Point", p.Point(0, int(lay(innerOf(first, top...)))), api.OK)
	return mustOpen(t, p, 0), p, d
}

// 15.3: an inner page that has but one page left below it, beside a full one, gets some of that one's, if the key that is
// between them then has room above them. If not, all is right nonetheless.
func TestBareBesideFull(t *testing.T) {
	for length, want := range map[int]int{1: 0, 11: 0, 12: 1, 64: 1} {
		b, p, _ := beside(t, length)
		m := look(t, p, 0).entries
		bare, free := look(t, p, 0).bare, p.Free()
		for _, key := range []string{"z1", "z0"} {
			must(t, "Drop", b.Drop(key), true)
			delete(m, key)
			mustHave(t, b, m)
			s := look(t, p, 0)
			must(t, "Free", p.Free() > free, true)
			must(t, "pages", len(s.pages), 127-p.Free())
			if key == "z1" {
				must(t, fmt.Sprintf("bare ones behind %d", length), s.bare-bare, want)
			}
			free = p.Free()
		}
		for _, x := range m.pairs() {
			must(t, "Drop", b.Drop(x.Key), true)
			delete(m, x.Key)
			mustHave(t, b, m)
		}
		must(t, "Free", p.Free(), 127)
	}
}

// 15.3: pages that have room together are put together.
func TestPutTogether(t *testing.T) {
	b, p, m := grown(t, 3)
	l := m.pairs()
	for i, x := range l {
		if i%8 != 0 {
			must(t, "Drop", b.Drop(x.Key), true)
			delete(m, x.Key)
		}
	}
	mustHave(t, b, m)
	for k := range m {
		mustPut(t, b, k, "")
		m[k] = ""
	}
	mustHave(t, b, m)
	must(t, "few pages", 127-p.Free() <= 3, true)
}

// 15.4: trees of one root, opened twice, are one; p isn't kept apart.
func TestTwoOfOneRoot(t *testing.T) {
	b, p, _ := fresh(t, 6)
	c := mustOpen(t, p, 0)
	mustPut(t, b, "a", "x")
	mustPut(t, c, "b", "y")
	mustHave(t, b, table{"a": "x", "b": "y"})
	mustHave(t, c, table{"a": "x", "b": "y"})
	must(t, "Drop", c.Drop("a"), true)
	mustLack(t, b, "a")
	b.Clear()
	mustHave(t, c, nil)
	other := mustOpen(t, p, 1)
	mustPut(t, other, "c", "z")
	must(t, "Point", p.Point(0, p.Root(1)), api.OK)
	mustHave(t, b, table{"c": "z"})
}

// 15.2: of a disk that is down, what can be read is told and changed, and of what can't nothing is changed.
func TestDown(t *testing.T) {
	b, p, d := fresh(t, 24)
	m := table{}
	for i := range 20 {
		key := fmt.Sprintf("k%02d", i)
		m[key] = strings.Repeat("v", 300)
		mustPut(t, b, key, m[key])
	}
	mustCommit(t, p)
	d.Fail(nil)
	mustLack(t, b, "k00")
	must(t, "Put", b.Put("k00", "x"), api.ErrDown)
	must(t, "Put", b.Put("", "x"), api.ErrArg)
	must(t, "Drop", b.Drop("k00"), false)
	must(t, "Range", len(b.Range("", most, 99)), 0)
	mustNext(t, b, "", "")
	mustPrev(t, b, most, "")
	must(t, "Len", b.Len(), 0)
	must(t, "Height", b.Height(), 0)
	b.Clear()
	must(t, "Changed", len(p.Changed()), 0)
	other := mustNew(p, 1)
	mustPut(t, other, "a", "x") // of an empty table nothing must be read
	mustGet(t, other, "a", "x")
	for p.Free() > 2 {
		p.Alloc()
	}
	must(t, "Put", b.Put("k00", "x"), api.ErrDown)
	for p.Free() > 0 {
		p.Alloc()
		must(t, "Put", b.Put("k00", "x"), api.ErrFull) // whatever the height is, of a table that isn't empty
	}
	must(t, "Start", d.Start(), api.OK)
	mustHave(t, b, m)
	mustHave(t, other, table{"a": "x"})
	p.Abort()
	mustHave(t, b, m)
	mustHave(t, other, nil)
}

// mustNew is a tree of which nothing is looked at yet.
func mustNew(p *pager.Pager, k int) *Tree {
	return &Tree{p, k}
}

// 15.2: of a disk that went down behind some changes, each call tells what it would tell else, or nothing.
func TestDownInPart(t *testing.T) {
	b, p, d := fresh(t, 24)
	m := table{}
	for i := range 20 {
		key := fmt.Sprintf("k%02d", i)
		m[key] = strings.Repeat("v", 300)
		mustPut(t, b, key, m[key])
	}
	mustCommit(t, p)
	for _, key := range []string{"k00", "k07", "k11", "k19"} { // their leaves are written, and the root below
		m[key] = strings.Repeat("w", 300)
		mustPut(t, b, key, m[key])
	}
	text, _ := p.Read(p.Root(0))
	must(t, "Write", p.Write(p.Root(0), text), api.OK)
	d.Fail(nil)
	told := 0
	for _, x := range m.pairs() {
		if v, ok := b.Get(x.Key); ok {
			must(t, "Get", v, x.Value)
			told++
		}
	}
	must(t, "some are told", told >= 3 && told < 20, true)
	for _, key := range []string{"k00", "k07", "k11", "k19"} {
		mustGet(t, b, key, m[key])
		mustKeys(t, b, key, key, 9, key)
		mustPrev(t, b, key+"\x00", key)
		must(t, "Drop", b.Drop(key), true)
		delete(m, key)
		mustLack(t, b, key)
	}
	must(t, "Len", b.Len(), 0)
	must(t, "Check", b.Check(), api.ErrDown)
	must(t, "Range", len(b.Range("", most, 99)), 0)
	for _, x := range m.pairs() {
		if e := b.Put(x.Key, "new"); e == api.OK {
			m[x.Key] = "new"
		} else {
			must(t, "Put", e, api.ErrDown)
		}
		if b.Drop(x.Key) {
			delete(m, x.Key)
		}
	}
	b.Clear()
	must(t, "some are left", len(m) > 0, true)
	must(t, "Start", d.Start(), api.OK)
	mustHave(t, b, m)
	s := look(t, p, 0)
	must(t, "pages", len(s.pages), 23-p.Free())
}

// 15.2: of two leaves of a disk that is down only one can be read: whatever that one tells alone is told.
func TestDownBesides(t *testing.T) {
	top, left := innerOf(2, branch{"c", 3}), leafOf("a", "1", "b", "2")
	open := func(first, second string) (*Tree, *pager.Pager, func(m table)) {
		p, d := laid(t, top, left, leafOf("c", "3", "d", "4"))
		b := mustOpen(t, p, 0)
		mustCommit(t, p)
		d.Fail(nil)
		if first != "" {
			must(t, "Write", p.Write(1, first), api.OK)
		}
		if second != "" {
			must(t, "Write", p.Write(2, second), api.OK)
		}
		return b, p, func(m table) {
			t.Helper()
			must(t, "Start", d.Start(), api.OK)
			mustHave(t, b, m)
			must(t, "pages", len(look(t, p, 0).pages), 9-p.Free())
		}
	}
	all := table{"a": "1", "b": "2", "c": "3", "d": "4"}
	b, p, end := open(top, "")
	must(t, "Height", b.Height(), 0)
	must(t, "Put", b.Put("a", "x"), api.ErrDown)
	must(t, "Drop", b.Drop("a"), false)
	must(t, "Free", p.Free(), 6)
	end(all)
	b, p, end = open(top, left)
	must(t, "Height", b.Height(), 2)
	must(t, "Len", b.Len(), 0)
	must(t, "Check", b.Check(), api.ErrDown)
	mustKeys(t, b, "", most, 1, "a")
	mustKeys(t, b, "", most, 2, "a b")
	mustKeys(t, b, "", most, 3, "")
	mustKeys(t, b, "", "b\xff", 9, "a b")
	mustKeys(t, b, "", "c", 9, "")
	mustNext(t, b, "", "a")
	mustNext(t, b, "a", "b")
	mustNext(t, b, "b", "")
	mustPrev(t, b, "a", "")
	mustPrev(t, b, "b", "a")
	mustPrev(t, b, "c", "b")
	mustPrev(t, b, "d", "")
	mustGet(t, b, "a", "1")
	mustLack(t, b, "c")
	must(t, "Put", b.Put("c", "x"), api.ErrDown)
	must(t, "Put", b.Put("e", "x"), api.ErrDown)
	must(t, "Drop", b.Drop("c"), false)
	b.Clear()
	must(t, "Free", p.Free(), 6)
	mustPut(t, b, "a", "x")
	mustPut(t, b, "ab", "y")
	must(t, "Drop", b.Drop("b"), true)
	end(table{"a": "x", "ab": "y", "c": "3", "d": "4"})
	b, p, end = open(top, left)
	must(t, "Drop", b.Drop("b"), true)
	must(t, "Drop", b.Drop("a"), true) // the leaf is gone, and the root above it
	must(t, "Free", p.Free(), 8)
	end(table{"c": "3", "d": "4"})
}

// 15.2, 15.3: a bare page stays so, if the one beside it can't be read.
func TestDownBare(t *testing.T) {
	b, p, d := beside(t, 1)
	m := look(t, p, 0).entries
	mustCommit(t, p)
	texts := map[int]string{}
	for id := 1; id < 128; id++ {
		text, e := p.Read(id)
		if e == api.OK && (id == p.Root(0) || strings.Contains(text, "z0") || strings.Contains(text, "z1")) {
			texts[id] = text
		}
	}
	must(t, "the root, an inner page, two leaves", len(texts), 4)
	d.Fail(nil)
	for id, text := range texts {
		must(t, "Write", p.Write(id, text), api.OK)
	}
	must(t, "Drop", b.Drop("z1"), true)
	delete(m, "z1")
	must(t, "Start", d.Start(), api.OK)
	mustHave(t, b, m)
	s := look(t, p, 0)
	must(t, "pages", len(s.pages), 127-p.Free())
}
