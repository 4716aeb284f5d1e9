package btree

import (
	"encoding/binary"
	"fmt"
	"maps"
	"math"
	"slices"
	"strings"
	"testing"

	"strongroom/api"
	"strongroom/disk"
	"strongroom/journal"
	"strongroom/pager"
)

// most is a text behind all keys.
var most = strings.Repeat("\xff", 65)

// must holds an answer against the one that is asked for.
func must(t *testing.T, what string, got, want any) {
	t.Helper()
	if got != want {
		t.Fatalf("%s: %.80s, not %.80s", what, fmt.Sprint(got), fmt.Sprint(want))
	}
}

func mustDisk(t *testing.T, pages int) *disk.Disk {
	t.Helper()
	d, e := disk.New(journal.Need(pages))
	must(t, "disk.New", e, api.OK)
	return d
}

func mustPager(t *testing.T, d *disk.Disk, pages int) *pager.Pager {
	t.Helper()
	j, e := journal.Open(d, pages)
	must(t, "journal.Open", e, api.OK)
	p, e := pager.Open(j)
	must(t, "pager.Open", e, api.OK)
	return p
}

func mustOpen(t *testing.T, p *pager.Pager, k int) *Tree {
	t.Helper()
	b, e := Open(p, k)
	if b == nil || e != api.OK {
		t.Fatalf("Open(%d): %v, %v", k, b, e)
	}
	return b
}

func mustRefuse(t *testing.T, p *pager.Pager, k int, want api.Errno) {
	t.Helper()
	if b, e := Open(p, k); b != nil || e != want {
		t.Fatalf("Open(%d): %v, %v, not %v", k, b, e, want)
	}
}

// fresh is an empty tree below the root 0 of a new pager, the pager, and the disk below it.
func fresh(t *testing.T, pages int) (*Tree, *pager.Pager, *disk.Disk) {
	t.Helper()
	d := mustDisk(t, pages)
	p := mustPager(t, d, pages)
	return mustOpen(t, p, 0), p, d
}

// restart has the power fail, and come back, with those writes there that are picked.
func restart(t *testing.T, d *disk.Disk, picks []bool) {
	t.Helper()
	d.Fail(picks)
	must(t, "Start", d.Start(), api.OK)
}

func mustPut(t *testing.T, b *Tree, key, value string) {
	t.Helper()
	if e := b.Put(key, value); e != api.OK {
		t.Fatalf("Put(%.8q.., %d bytes): %v", key, len(value), e)
	}
}

func mustCommit(t *testing.T, p *pager.Pager) {
	t.Helper()
	must(t, "Commit", p.Commit(), api.OK)
}

func mustGet(t *testing.T, b *Tree, key, want string) {
	t.Helper()
	if v, ok := b.Get(key); v != want || !ok {
		t.Fatalf("Get(%.8q): %.8q, %v, not %.8q", key, v, ok, want)
	}
}

func mustLack(t *testing.T, b *Tree, key string) {
	t.Helper()
	if v, ok := b.Get(key); v != "" || ok {
		t.Fatalf("Get(%.8q): %.8q, %v", key, v, ok)
	}
}

// mustKeys holds the keys of a range against others.
func mustKeys(t *testing.T, b *Tree, from, to string, n int, want string) {
	t.Helper()
	var l []string
	for _, x := range b.Range(from, to, n) {
		l = append(l, x.Key)
	}
	must(t, fmt.Sprintf("Range(%.8q, %.8q, %d)", from, to, n), strings.Join(l, " "), want)
}

// mustStep holds the key of an entry that may be there against another one; "" is none.
func mustStep(t *testing.T, what string, x api.Pair, ok bool, want string) {
	t.Helper()
	if x.Key != want || ok != (want != "") || !ok && x != (api.Pair{}) {
		t.Fatalf("%s: %.20q, %v, not %.20q", what, x, ok, want)
	}
}

func mustNext(t *testing.T, b *Tree, key, want string) {
	t.Helper()
	x, ok := b.Next(key)
	mustStep(t, fmt.Sprintf("Next(%.8q)", key), x, ok, want)
}

func mustPrev(t *testing.T, b *Tree, key, want string) {
	t.Helper()
	x, ok := b.Prev(key)
	mustStep(t, fmt.Sprintf("Prev(%.8q)", key), x, ok, want)
}

// table is what a tree is to have.
type table map[string]string

// pairs are a table's entries by rising key.
func (m table) pairs() []api.Pair {
	var l []api.Pair
	for _, k := range slices.Sorted(maps.Keys(m)) {
		l = append(l, api.Pair{Key: k, Value: m[k]})
	}
	return l
}

// mustHave holds a tree's entries against a table.
func mustHave(t *testing.T, b *Tree, m table) {
	t.Helper()
	must(t, "Check", b.Check(), api.OK)
	must(t, "Len", b.Len(), len(m))
	if l := b.Range("", most, math.MaxInt); !slices.Equal(l, m.pairs()) {
		t.Fatalf("Range of all: %d entries, not those %d", len(l), len(m))
	}
}

// leafOf is a leaf's bytes, laid by the words of the chapter, of keys and values by turns.
func leafOf(l ...string) string {
	b := []byte{1}
	b = binary.BigEndian.AppendUint16(b, uint16(len(l)/2))
	for i := 0; i < len(l); i += 2 {
		b = append(b, byte(len(l[i])))
		b = binary.BigEndian.AppendUint16(b, uint16(len(l[i+1])))
		b = append(b, l[i]+l[i+1]...)
	}
	return filled(b)
}

// branch is a key of an inner page, and the page behind it.
type branch struct {
	key  string
	page uint16
}

// innerOf is an inner page's bytes, laid likewise.
func innerOf(first uint16, l ...branch) string {
	b := []byte{2}
	b = binary.BigEndian.AppendUint16(b, uint16(len(l)))
	b = binary.BigEndian.AppendUint16(b, first)
	for _, x := range l {
		b = append(b, byte(len(x.key)))
		b = binary.BigEndian.AppendUint16(b, x.page)
		b = append(b, x.key...)
	}
	return filled(b)
}

// filled is bytes with noughts behind them, up to a page.
func filled(b []byte) string {
	return string(append(b, make([]byte, 1024-len(b))...))
}

// with is a text in which a byte is another one.
func with(text string, at int, b byte) string {
	return text[:at] + string([]byte{b}) + text[at+1:]
}

// laid is a pager of ten pages whose pages from 1 on have these bytes; the root 0 is the page 1.
func laid(t *testing.T, texts ...string) (*pager.Pager, *disk.Disk) {
	t.Helper()
	d := mustDisk(t, 10)
	p := mustPager(t, d, 10)
	for i, s := range texts {
		id, e := p.Alloc()
		must(t, "Alloc", e, api.OK)
		must(t, "Alloc", id, i+1)
		must(t, "Write", p.Write(id, s), api.OK)
	}
	must(t, "Point", p.Point(0, 1), api.OK)
	return p, d
}

// seenTree is what the pages below a root tell to one who reads them by the words of the chapter.
type seenTree struct {
	entries table
	height  int
	pages   map[int]bool
	bare    int // inner pages without a key
}

// look reads the pages below a root, and holds them against what is asked of a right tree.
func look(t *testing.T, p *pager.Pager, k int) seenTree {
	t.Helper()
	s := seenTree{table{}, 0, map[int]bool{}, 0}
	if p.Root(k) != 0 {
		s.look(t, p, p.Root(k), 1, "", most)
	}
	return s
}

func (s *seenTree) look(t *testing.T, p *pager.Pager, id, depth int, low, high string) {
	t.Helper()
	text, e := p.Read(id)
	if e != api.OK || s.pages[id] {
		t.Fatalf("the page %d: %v, or it is there twice", id, e)
	}
	s.pages[id] = true
	count, rest := int(text[1])*256+int(text[2]), text[3:]
	below := []int{}
	if text[0] == 2 {
		below, rest = append(below, int(rest[0])*256+int(rest[1])), rest[2:]
	} else if text[0] != 1 || count == 0 || s.height != 0 && s.height != depth {
		t.Fatalf("the page %d: kind %d, %d entries, depth %d", id, text[0], count, depth)
	} else {
		s.height = depth
	}
	if text[0] == 2 && count == 0 {
		s.bare++
	}
	var keys []string
	for range count {
		n, m := int(rest[0]), int(rest[1])*256+int(rest[2])
		key := rest[3 : 3+n]
		rest = rest[3+n:]
		if len(key) < 1 || len(key) > 64 || key < low || key >= high || len(keys) > 0 && keys[len(keys)-1] >= key {
			t.Fatalf("the page %d has the key %q", id, key)
		}
		keys = append(keys, key)
		if text[0] == 2 {
			below = append(below, m)
			continue
		}
		if m > 400 {
			t.Fatalf("the page %d has a value of %d bytes", id, m)
		}
		s.entries[key], rest = rest[:m], rest[m:]
	}
	if rest != strings.Repeat("\x00", len(rest)) {
		t.Fatalf("the page %d: bytes behind its entries", id)
	}
	for i, page := range below {
		ends := append(append([]string{low}, keys...), high)
		s.look(t, p, page, depth+1, ends[i], ends[i+1])
	}
}

// 15.1: what is refused, and in which order.
func TestOpenRefuses(t *testing.T) {
	p, d := laid(t, leafOf("a", "x"), filled(nil))
	must(t, "Point", p.Point(1, 2), api.OK)
	mustCommit(t, p)
	wrong := []int{-1, 4, 5, math.MinInt, math.MaxInt}
	refuse := func() {
		t.Helper()
		for k := range 4 {
			mustRefuse(t, nil, k, api.ErrArg)
		}
		for _, k := range wrong {
			mustRefuse(t, nil, k, api.ErrArg)
			mustRefuse(t, p, k, api.ErrArg)
		}
	}
	refuse()
	mustOpen(t, p, 0)
	mustRefuse(t, p, 1, api.ErrForm)
	mustOpen(t, p, 2)
	mustOpen(t, p, 3)
	d.Fail(nil)
	refuse()
	for k := range 4 {
		mustRefuse(t, p, k, api.ErrDown)
	}
	must(t, "Write", p.Write(2, leafOf("a", "x", "a", "x")), api.OK)
	mustRefuse(t, p, 1, api.ErrForm) // what was written can be read
	must(t, "Write", p.Write(2, leafOf("a", "x")), api.OK)
	mustRefuse(t, p, 1, api.ErrDown) // another page can't
}

// 15.1: Check tells what Open would, of what is there now.
func TestCheckNow(t *testing.T) {
	var none *Tree
	must(t, "Check of nil", none.Check(), api.ErrArg)
	b, p, d := fresh(t, 4)
	must(t, "Check", b.Check(), api.OK)
	mustPut(t, b, "a", "x")
	text, _ := p.Read(1)
	must(t, "Write", p.Write(1, filled(nil)), api.OK)
	must(t, "Check", b.Check(), api.ErrForm)
	mustRefuse(t, p, 0, api.ErrForm)
	must(t, "Write", p.Write(1, text), api.OK)
	must(t, "Check", b.Check(), api.OK)
	mustCommit(t, p)
	must(t, "Check", b.Check(), api.OK)
	d.Fail(nil)
	must(t, "Check", b.Check(), api.ErrDown)
	must(t, "Start", d.Start(), api.OK)
	must(t, "Check", b.Check(), api.OK)
	must(t, "Point", p.Point(0, 0), api.OK)
	must(t, "Check", b.Check(), api.OK)
	must(t, "Len", b.Len(), 0)
}

// 15.1: a disk that is down is told of an empty table too.
func TestDownEmpty(t *testing.T) {
	b, p, d := fresh(t, 4)
	d.Fail(nil)
	must(t, "Check", b.Check(), api.ErrDown)
	mustRefuse(t, p, 2, api.ErrDown)
	must(t, "Start", d.Start(), api.OK)
	must(t, "Check", b.Check(), api.OK)
	mustPut(t, mustOpen(t, p, 1), "a", "x")
	mustCommit(t, p)
	_, e := p.Save()
	must(t, "Save", e, api.OK)
	d.Fail(nil)
	must(t, "Check", b.Check(), api.ErrDown) // by a page of another tree
	must(t, "Back", p.Back(0), api.OK)
}

// 15.1: of a disk that is down, pages that aren't right go ahead, wherever they stand.
func TestFormAheadOfDown(t *testing.T) {
	p, d := laid(t, innerOf(2, branch{"b", 3}, branch{"c", 4}), leafOf("a", ""), leafOf("b", ""), leafOf("c", ""))
	b := mustOpen(t, p, 0)
	mustCommit(t, p)
	d.Fail(nil)
	must(t, "Write", p.Write(1, innerOf(2, branch{"b", 3}, branch{"c", 4})), api.OK)
	for id := 2; id <= 4; id++ {
		must(t, "Check", b.Check(), api.ErrDown)
		n, e := p.Save()
		must(t, "Save", e, api.OK)
		must(t, "Write", p.Write(id, leafOf("d", "", "d", "")), api.OK)
		must(t, "Check", b.Check(), api.ErrForm)
		must(t, "Back", p.Back(n), api.OK)
	}
	must(t, "Write", p.Write(1, innerOf(2, branch{"b", 2})), api.OK) // twice
	must(t, "Check", b.Check(), api.ErrForm)
	must(t, "Write", p.Write(1, innerOf(2, branch{"b", 9})), api.OK) // free
	must(t, "Check", b.Check(), api.ErrForm)
}

// 15.1: inner keys keep to those above them, even if no leaf can be read.
func TestInnerKeysOfDown(t *testing.T) {
	for _, x := range []struct {
		left, right string
		want        api.Errno
	}{
		{"b", "f", api.ErrDown},
		{"c\xff", "d", api.ErrDown},
		{"b", "c", api.ErrForm},
		{"d", "f", api.ErrForm},
		{"e", "f", api.ErrForm},
	} {
		above := innerOf(2, branch{"d", 3})
		p, d := laid(t, above, innerOf(4, branch{"b", 5}), innerOf(6, branch{"e", 7}),
			leafOf("a", ""), leafOf("b", ""), leafOf("d", ""), leafOf("f", ""))
		b := mustOpen(t, p, 0)
		mustCommit(t, p)
		d.Fail(nil)
		must(t, "Write", p.Write(1, above), api.OK)
		must(t, "Write", p.Write(2, innerOf(4, branch{x.left, 5})), api.OK)
		must(t, "Write", p.Write(3, innerOf(6, branch{x.right, 7})), api.OK)
		must(t, "Check of "+x.left+" and "+x.right, b.Check(), x.want)
	}
}

// 15.1: a page of a disk that is down may be a leaf or not: its depth tells nothing.
func TestDepthOfDown(t *testing.T) {
	texts := []string{innerOf(2, branch{"d", 3}), innerOf(4, branch{"b", 5}), innerOf(6, branch{"e", 7}),
		leafOf("a", ""), leafOf("c", ""), leafOf("d", ""), leafOf("f", "")}
	for hidden := 1; hidden <= 7; hidden++ {
		p, d := laid(t, texts...)
		b := mustOpen(t, p, 0)
		mustCommit(t, p)
		d.Fail(nil)
		for i, text := range texts {
			if i+1 != hidden {
				must(t, "Write", p.Write(i+1, text), api.OK)
			}
		}
		must(t, "Check", b.Check(), api.ErrDown)
		mustRefuse(t, p, 0, api.ErrDown)
	}
}

// 15.1, 15.4: Open and Check change nothing: neither savepoints nor what isn't committed yet nor the disk.
func TestCheckChangesNothing(t *testing.T) {
	for _, put := range []bool{false, true} {
		b, p, d := fresh(t, 6)
		for n := range 16 {
			if put {
				mustPut(t, b, string(rune('a'+n)), "x")
			}
			must(t, "Check", b.Check(), api.OK)
			mustOpen(t, p, 3)
			m, e := p.Save()
			must(t, "Save", e, api.OK)
			must(t, "Save", m, n)
			must(t, "Check", b.Check(), api.OK)
		}
		_, e := p.Save()
		must(t, "Save", e, api.ErrFull)
		must(t, "Check", b.Check(), api.OK)
		for n := 15; n >= 0; n-- {
			must(t, "Back", p.Back(n), api.OK)
			must(t, "Check", b.Check(), api.OK)
		}
		must(t, "Serial", p.Serial(), uint64(0))
		must(t, "Writes", d.Writes(), 0)
		must(t, "Changed", len(p.Changed()) > 0, put)
	}
}

// 15.1: trees that are right, each at some edge, and what they have.
func TestRight(t *testing.T) {
	long := func(c string, n int) string { return strings.Repeat(c, n) }
	full := leafOf("a", long("x", 400), "b", long("y", 400), "c", long("z", 1021-404-404-4))
	must(t, "the last byte", full[1023], byte('z'))
	for _, x := range []struct {
		texts  []string
		keys   string
		height int
	}{
		{[]string{leafOf("a", "")}, "a", 1},
		{[]string{leafOf("\x00", "")}, "\x00", 1},
		{[]string{leafOf(long("\xff", 64), long("\x00", 400))}, long("\xff", 64), 1},
		{[]string{leafOf("a", "x", "aa", "", "b", "x")}, "a aa b", 1},
		{[]string{full}, "a b c", 1},
		{[]string{innerOf(3, branch{"b", 2}), leafOf("b", ""), leafOf("a", "", "az", "")}, "a az b", 2},
		{[]string{innerOf(2, branch{"b", 3}), leafOf("a", ""), leafOf("c", "")}, "a c", 2},
		{[]string{innerOf(2, branch{long("m", 64), 3}), leafOf(long("m", 63), ""), leafOf(long("m", 64), "")},
			long("m", 63) + " " + long("m", 64), 2},
		{[]string{innerOf(2), leafOf("a", "")}, "a", 2},
		{[]string{innerOf(2, branch{"d", 3}), innerOf(4, branch{"b", 5}), innerOf(6, branch{"e", 7}),
			leafOf("a", ""), leafOf("c", ""), leafOf("d", ""), leafOf("f", "")}, "a c d f", 3},
		{[]string{innerOf(2, branch{"d", 3}), innerOf(4, branch{"b", 5}), innerOf(6),
			leafOf("a", ""), leafOf("c", ""), leafOf("d", "")}, "a c d", 3},
		{[]string{innerOf(2), innerOf(3), innerOf(4), innerOf(5), leafOf("a", "")}, "a", 5},
	} {
		p, _ := laid(t, x.texts...)
		b := mustOpen(t, p, 0)
		must(t, "Check", b.Check(), api.OK)
		must(t, "Height", b.Height(), x.height)
		must(t, "Len", b.Len(), len(strings.Split(x.keys, " ")))
		mustKeys(t, b, "", most, 99, x.keys)
		for _, key := range strings.Split(x.keys, " ") {
			must(t, "Drop", b.Drop(key), true)
			must(t, "Check", b.Check(), api.OK)
		}
		must(t, "Free", p.Free(), 9)
		must(t, "Root", p.Root(0), 0)
	}
}

// 15.1: trees that aren't right, each for one cause alone, but where one brings another one about.
func TestWrong(t *testing.T) {
	long := func(c string, n int) string { return strings.Repeat(c, n) }
	a, c := leafOf("a", "x"), leafOf("c", "y")
	for what, texts := range map[string][]string{
		"noughts":                       {filled(nil)},
		"kind 0":                        {with(a, 0, 0)},
		"kind 3":                        {with(a, 0, 3)},
		"kind 255":                      {with(a, 0, 255)},
		"an entry more":                 {with(a, 2, 2)},
		"an entry less":                 {with(leafOf("a", "x", "b", "y"), 2, 1)},
		"256 entries more":              {with(a, 1, 1)},
		"a leaf without entries":        {leafOf()},
		"such a leaf below":             {innerOf(2, branch{"b", 3}), a, leafOf()},
		"a key less":                    {with(innerOf(2, branch{"b", 3}, branch{"d", 4}), 2, 1), a, c, leafOf("d", "")},
		"a key more":                    {with(innerOf(2, branch{"b", 3}), 2, 2), a, c},
		"no key, but its bytes":         {with(innerOf(2, branch{"b", 3}), 2, 0), a, c},
		"a nought too few behind":       {with(a, 1023, 1)},
		"bytes right behind":            {with(a, 8, 1)},
		"bytes behind an inner one":     {with(innerOf(2, branch{"b", 3}), 1023, 1), a, c},
		"bytes behind a bare one":       {with(innerOf(2), 5, 1), a},
		"an empty key":                  {leafOf("", "x")},
		"a key of 65 bytes":             {leafOf(long("k", 65), "x")},
		"a value of 401 bytes":          {leafOf("k", long("v", 401))},
		"an empty inner key":            {innerOf(2, branch{"", 3}), a, c},
		"an inner key of 65 bytes":      {innerOf(2, branch{long("b", 65), 3}), a, c},
		"a key twice":                   {leafOf("a", "x", "a", "x")},
		"keys that fall":                {leafOf("b", "x", "a", "x")},
		"a key ahead of its beginning":  {leafOf("ab", "x", "a", "x")},
		"an inner key twice":            {innerOf(2, branch{"b", 3}, branch{"b", 4}), a, leafOf("b", ""), c},
		"inner keys that fall":          {innerOf(2, branch{"d", 3}, branch{"b", 4}), a, leafOf("d", ""), c},
		"the page 0 first":              {innerOf(0, branch{"b", 2}), c},
		"the page 0 behind":             {innerOf(2, branch{"b", 0}), a},
		"the page 0 alone":              {innerOf(0)},
		"a page beyond the last":        {innerOf(2, branch{"b", 10}), a},
		"a page far beyond":             {innerOf(2, branch{"b", 65535}), a},
		"a page that is free":           {innerOf(2, branch{"b", 3}), a},
		"a page that is free first":     {innerOf(3, branch{"b", 2}), c},
		"a page twice":                  {innerOf(2, branch{"b", 2}), a},
		"a bare page below itself":      {innerOf(1)},
		"a page below itself":           {innerOf(2, branch{"b", 1}), a},
		"a page twice, apart":           {innerOf(2, branch{"d", 3}), innerOf(4, branch{"b", 5}), innerOf(4, branch{"e", 5}), a, c},
		"a key below what is above it":  {innerOf(2, branch{"b", 3}), a, leafOf("ab", "")},
		"a key that is above it":        {innerOf(2, branch{"b", 3}), leafOf("b", ""), c},
		"a key behind that":             {innerOf(2, branch{"b", 3}), leafOf("a", "", "bb", ""), c},
		"a key beyond the page's own":   {innerOf(2, branch{"b", 3}, branch{"d", 4}), a, leafOf("d", ""), leafOf("e", "")},
		"a grandchild's key too low":    {innerOf(2, branch{"d", 3}), innerOf(4, branch{"b", 5}), innerOf(6, branch{"e", 7}), a, c, c, leafOf("f", "")},
		"a grandchild's key too high":   {innerOf(2, branch{"d", 3}), innerOf(4, branch{"b", 5}), innerOf(6, branch{"e", 7}), a, leafOf("d", ""), leafOf("d", ""), leafOf("f", "")},
		"an inner key too low":          {innerOf(2, branch{"d", 3}), innerOf(4, branch{"b", 5}), innerOf(6, branch{"a", 7}), a, c, c, leafOf("f", "")},
		"an inner key too high":         {innerOf(2, branch{"d", 3}), innerOf(4, branch{"e", 5}), innerOf(6, branch{"f", 7}), a, c, leafOf("d", ""), leafOf("f", "")},
		"a leaf beside an inner page":   {innerOf(2, branch{"b", 3}), a, innerOf(4), c},
		"an inner page beside a leaf":   {innerOf(2, branch{"b", 3}), innerOf(4), c, a},
		"a leaf deeper than its cousin": {innerOf(2, branch{"b", 3}), innerOf(4), innerOf(5), a, innerOf(6), c},
		"a page below that isn't such":  {innerOf(2, branch{"b", 3}), a, filled(nil)},
		"a leaf whose entry is cut off": {filled([]byte{1, 0, 1})[:1024-4] + "\x01\x00\x00a"},
	} {
		p, _ := laid(t, texts...)
		if b, e := Open(p, 0); b != nil || e != api.ErrForm {
			t.Fatalf("%s: %v, %v", what, b, e)
		}
	}
}

// entriesUpTo is a leaf whose one value ends so many bytes behind a page's first ones, or would end there.
func entriesUpTo(end int) string {
	b := append([]byte{1, 0, 3, 1, 1, 144, 'a'}, make([]byte, 400)...)
	b = append(b, append([]byte{1, 1, 144, 'b'}, make([]byte, 400)...)...)
	n := end - len(b) - 4
	b = append(b, 1, byte(n>>8), byte(n), 'c')
	return string(append(b, make([]byte, 1024-len(b))...))
}

// 15.1: an entry may end where its page does, and no later; so may a key of an inner page.
func TestPageEnd(t *testing.T) {
	p, _ := laid(t, entriesUpTo(1024))
	must(t, "Len", mustOpen(t, p, 0).Len(), 3)
	p, _ = laid(t, entriesUpTo(1025))
	mustRefuse(t, p, 0, api.ErrForm)
	// Of an inner page: 15 keys of 64 bytes and one of 11 fill it, and where it goes on there is nothing.
	for _, n := range []int{11, 12} {
		b := []byte{2, 0, 16, 0, 2}
		for i := range 15 {
			b = append(b, 64, 0, byte(3+i))
			b = append(b, strings.Repeat(string(rune('b'+i)), 64)...)
		}
		b = append(b, byte(n), 0, 18)
		b = append(b, strings.Repeat("z", 11)...)
		must(t, "bytes", len(b), 1024)
		d := mustDisk(t, 20)
		p := mustPager(t, d, 20)
		for id := 1; id <= 18; id++ {
			p.Alloc()
			p.Write(id, leafOf(strings.Repeat(string(rune('a'+id-2)), 64), ""))
		}
		p.Write(18, leafOf(strings.Repeat("z", 64), ""))
		p.Write(1, string(b))
		p.Point(0, 1)
		if n == 11 {
			must(t, "Len", mustOpen(t, p, 0).Len(), 17)
		} else {
			mustRefuse(t, p, 0, api.ErrForm)
		}
	}
	// A count that goes on where the page has no room for two lengths, or just that.
	for n := 206; n <= 209; n++ {
		v := strings.Repeat("v", 400)
		text := leafOf("a", v, "b", v, "c", v[:n])
		p, _ = laid(t, text)
		must(t, "Len", mustOpen(t, p, 0).Len(), 3)
		p, _ = laid(t, with(text, 2, 4))
		mustRefuse(t, p, 0, api.ErrForm)
	}
}
