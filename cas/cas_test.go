package cas

import (
	"crypto/sha256"
	"fmt"
	"maps"
	"math"
	"math/rand"
	"slices"
	"strings"
	"testing"

	"strongroom/api"
	"strongroom/disk"
	"strongroom/journal"
	"strongroom/shelf"
)

// must holds an answer against the one that is asked for.
func must(t *testing.T, what string, got, want any) {
	t.Helper()
	if got != want {
		t.Fatalf("%s: %#v, not %#v", what, got, want)
	}
}

// plain is a table in memory, which can be told to refuse, and counts what it was told to change.
type plain struct {
	entries map[string]string
	refuse  api.Errno // what a Put answers
	keeps   bool      // whether a Drop does nothing
	told    int       // Puts and Drops
}

func newPlain() *plain {
	return &plain{entries: map[string]string{}}
}

func (p *plain) Get(key string) (string, bool) {
	v, ok := p.entries[key]
	return v, ok
}

func (p *plain) Put(key, value string) api.Errno {
	p.told++
	if len(key) == 0 || len(key) > api.MaxKey || len(value) > api.MaxValue {
		return api.ErrArg
	}
	if p.refuse != api.OK {
		return p.refuse
	}
	p.entries[key] = value
	return api.OK
}

func (p *plain) Drop(key string) bool {
	p.told++
	_, ok := p.entries[key]
	if p.keeps {
		return false
	}
	delete(p.entries, key)
	return ok
}

func (p *plain) Range(from, to string, most int) []api.Pair {
	var l []api.Pair
	for _, k := range slices.Sorted(maps.Keys(p.entries)) {
		if k >= from && k <= to && len(l) < most {
			l = append(l, api.Pair{Key: k, Value: p.entries[k]})
		}
	}
	return l
}

func mustNew(t *testing.T, table Table, width int) *Store {
	t.Helper()
	s, e := New(table, width)
	if s == nil || e != api.OK {
		t.Fatalf("New of the width %d: %v, %v", width, s, e)
	}
	return s
}

func fresh(t *testing.T, width int) (*Store, *plain) {
	t.Helper()
	p := newPlain()
	return mustNew(t, p, width), p
}

func freshShelf(t *testing.T, pages int) (*shelf.Shelf, *disk.Disk) {
	t.Helper()
	d, e := disk.New(journal.Need(pages))
	must(t, "disk.New", e, api.OK)
	return openShelf(t, d, pages), d
}

func openShelf(t *testing.T, d *disk.Disk, pages int) *shelf.Shelf {
	t.Helper()
	j, e := journal.Open(d, pages)
	must(t, "journal.Open", e, api.OK)
	f, e := shelf.Open(j)
	must(t, "shelf.Open", e, api.OK)
	return f
}

func mustPut(t *testing.T, s *Store, data string) api.ID {
	t.Helper()
	id, e := s.Put(data)
	must(t, fmt.Sprintf("Put(%.12q)", data), e, api.OK)
	return id
}

func mustNotPut(t *testing.T, s *Store, data string, want api.Errno) {
	t.Helper()
	id, e := s.Put(data)
	must(t, fmt.Sprintf("Put(%.12q)", data), e, want)
	must(t, "the ID beside an error", id, api.ID{})
}

func mustHave(t *testing.T, s *Store, id api.ID, data string, refs int) {
	t.Helper()
	got, ok := s.Get(id)
	must(t, "Get", got, data)
	must(t, "Get's bool", ok, true)
	must(t, "Refs", s.Refs(id), refs)
}

func mustLack(t *testing.T, s *Store, id api.ID) {
	t.Helper()
	got, ok := s.Get(id)
	must(t, "Get", got, "")
	must(t, "Get's bool", ok, false)
	must(t, "Refs", s.Refs(id), 0)
}

func mustFind(t *testing.T, s *Store, sum string, want ...api.ID) {
	t.Helper()
	if l := s.Find(sum); !slices.Equal(l, want) {
		t.Fatalf("Find(%.8q): %#v, not %#v", sum, l, want)
	}
}

func mustCount(t *testing.T, s *Store, contents, bytes int) {
	t.Helper()
	n, m := s.Count()
	must(t, "Count's contents", n, contents)
	must(t, "Count's bytes", m, bytes)
}

// mustStay does something, behind which the table is to have what it had.
func mustStay(t *testing.T, p *plain, what string, do func()) {
	t.Helper()
	before := maps.Clone(p.entries)
	do()
	if !maps.Equal(before, p.entries) {
		t.Fatalf("%s: the table is changed", what)
	}
}

// alikes are texts with the same digest of a byte, as many as are asked for.
func alikes(n int, first byte) []string {
	var l []string
	for i := 0; len(l) < n; i++ {
		text := fmt.Sprint("text ", i)
		if sha256.Sum256([]byte(text))[0] == first {
			l = append(l, text)
		}
	}
	return l
}

// wholeSum is the digest of all 32 bytes, by the library.
func wholeSum(data string) string {
	sum := sha256.Sum256([]byte(data))
	return string(sum[:])
}

// 9.1: which widths there are, and a table that is nil.
func TestNew(t *testing.T) {
	for _, width := range []int{math.MinInt, -32, -1, 0, 33, 34, 64, 256, 257, math.MaxInt} {
		s, e := New(newPlain(), width)
		if s != nil || e != api.ErrArg {
			t.Fatalf("New of the width %d: %v, %v", width, s, e)
		}
	}
	for _, width := range []int{-1, 0, 1, 8, 32, 33} {
		s, e := New(nil, width)
		if s != nil || e != api.ErrArg {
			t.Fatalf("New of no table, of the width %d: %v, %v", width, s, e)
		}
	}
	for width := 1; width <= 32; width++ {
		s, p := fresh(t, width)
		must(t, "changes of a New", p.told, 0)
		mustCount(t, s, 0, 0)
	}
}

// 9.1: a digest is the first bytes of the whole one, of data of any length.
func TestDigest(t *testing.T) {
	for width := 1; width <= 32; width++ {
		s, p := fresh(t, width)
		for _, data := range []string{"", "x", "hello", strings.Repeat("a", 128), strings.Repeat("a", 129), strings.Repeat("b", 5000), "\x00", "\xff\xfe"} {
			must(t, "Digest", s.Digest(data), wholeSum(data)[:width])
		}
		must(t, "changes of a Digest", p.told, 0)
	}
}

// The document's example, over a shelf and over a table in memory.
func TestExample(t *testing.T) {
	f, _ := freshShelf(t, 3)
	for _, table := range []Table{f, newPlain()} {
		s := mustNew(t, table, 32)
		id := mustPut(t, s, "x")
		must(t, "Put again", mustPut(t, s, "x"), id)
		must(t, "ID", id, api.ID{Sum: wholeSum("x")})
		mustHave(t, s, id, "x", 2)
		mustCount(t, s, 1, 1)
	}
}

// Words: a content's key and value, to the byte.
func TestEntryBytes(t *testing.T) {
	for _, width := range []int{1, 2, 31, 32} {
		s, p := fresh(t, width)
		for _, data := range []string{"", "x", strings.Repeat("z", 128)} {
			id := mustPut(t, s, data)
			key := "c" + wholeSum(data)[:width] + "\x00"
			must(t, "value", p.entries[key], "\x00\x00\x00\x01"+data)
			for range 257 {
				must(t, "Again", s.Again(id), api.OK)
			}
			must(t, "value", p.entries[key], "\x00\x00\x01\x02"+data)
			for range 2 {
				must(t, "Take", s.Take(id), api.OK)
			}
			must(t, "value", p.entries[key], "\x00\x00\x01\x00"+data)
		}
		must(t, "entries", len(p.entries), 3)
	}
}

// Words: references in four bytes, the highest first.
func TestRefsBytes(t *testing.T) {
	s, p := fresh(t, 4)
	id := mustPut(t, s, "x")
	key := "c" + id.Sum + "\x00"
	for _, c := range []struct {
		bytes string
		refs  int
	}{{"\x00\x00\x00\x01", 1}, {"\x00\x00\x00\xff", 255}, {"\x00\x00\xff\xff", 65535}, {"\x01\x02\x03\x04", 0x01020304}, {"\x80\x00\x00\x00", 1 << 31}, {"\xff\xff\xff\xfe", 1<<32 - 2}} {
		p.entries[key] = c.bytes + "x"
		mustHave(t, s, id, "x", c.refs)
		must(t, "Again", s.Again(id), api.OK)
		mustHave(t, s, id, "x", c.refs+1)
		must(t, "Put", mustPut(t, mustNew(t, p, 3), "x").N, 0) // of another width, which is another content
		must(t, "Take", s.Take(id), api.OK)
		must(t, "value", p.entries[key], c.bytes+"x")
	}
}

// 9.2: how long data may be.
func TestPutLengths(t *testing.T) {
	for n := 0; n <= 128; n++ {
		s, _ := fresh(t, 8)
		data := strings.Repeat("q", n)
		id := mustPut(t, s, data)
		mustHave(t, s, id, data, 1)
		mustFind(t, s, s.Digest(data), id)
		mustCount(t, s, 1, n)
	}
	s, p := fresh(t, 8)
	mustPut(t, s, strings.Repeat("q", 128))
	for _, n := range []int{129, 130, 256, 400, 100000} {
		mustStay(t, p, "a Put that is too long", func() { mustNotPut(t, s, strings.Repeat("q", n), api.ErrLong) })
	}
	must(t, "changes", p.told, 1)
	mustCount(t, s, 1, 128)
}

// 9.2, 9.3: bytes of all kinds are kept as they are.
func TestBytesOfAllKinds(t *testing.T) {
	s, _ := fresh(t, 1)
	ids := map[api.ID]string{}
	for i := range 256 {
		data := string([]byte{byte(i)})
		ids[mustPut(t, s, data)] = data
	}
	must(t, "IDs", len(ids), 256)
	for id, data := range ids {
		mustHave(t, s, id, data, 1)
	}
	mustCount(t, s, 256, 256)
}

// 9.2, 9.4: contents of one digest are told apart by numbers, of which the least free one is taken.
func TestOneDigest(t *testing.T) {
	const first = 7
	sum := string([]byte{first})
	l := alikes(8, first)
	s, _ := fresh(t, 1)
	for i, data := range l[:5] {
		must(t, "Put", mustPut(t, s, data), api.ID{Sum: sum, N: i})
	}
	must(t, "Take", s.Take(api.ID{Sum: sum, N: 1}), api.OK)
	must(t, "Take", s.Take(api.ID{Sum: sum, N: 3}), api.OK)
	mustFind(t, s, sum, api.ID{Sum: sum, N: 0}, api.ID{Sum: sum, N: 2}, api.ID{Sum: sum, N: 4})
	must(t, "Put of one behind a gap", mustPut(t, s, l[4]), api.ID{Sum: sum, N: 4})
	mustHave(t, s, api.ID{Sum: sum, N: 4}, l[4], 2)
	must(t, "Put into a gap", mustPut(t, s, l[5]), api.ID{Sum: sum, N: 1})
	must(t, "Put into the next gap", mustPut(t, s, l[1]), api.ID{Sum: sum, N: 3})
	must(t, "Put behind all", mustPut(t, s, l[6]), api.ID{Sum: sum, N: 5})
	must(t, "Take of the first", s.Take(api.ID{Sum: sum, N: 0}), api.OK)
	must(t, "Put of the last", mustPut(t, s, l[6]), api.ID{Sum: sum, N: 5})
	must(t, "Put as the first", mustPut(t, s, l[7]), api.ID{Sum: sum, N: 0})
	for n, data := range []string{l[7], l[5], l[2], l[1], l[4], l[6]} {
		refs := 1
		if n >= 4 {
			refs = 2
		}
		mustHave(t, s, api.ID{Sum: sum, N: n}, data, refs)
	}
	mustLack(t, s, api.ID{Sum: sum, N: 6})
}

// 9.2: all 256 numbers of a digest are taken.
func TestAllNumbers(t *testing.T) {
	const first = 200
	sum := string([]byte{first})
	l := alikes(258, first)
	s, p := fresh(t, 1)
	var ids []api.ID
	for i, data := range l[:256] {
		ids = append(ids, mustPut(t, s, data))
		must(t, "N", ids[i], api.ID{Sum: sum, N: i})
	}
	mustStay(t, p, "a Put of one too many", func() { mustNotPut(t, s, l[256], api.ErrFull) })
	p.refuse = api.ErrDown
	mustNotPut(t, s, l[256], api.ErrFull) // ahead of the table's error
	p.refuse = api.OK
	mustFind(t, s, sum, ids...)
	must(t, "Put of the last one", mustPut(t, s, l[255]), ids[255])
	mustHave(t, s, ids[255], l[255], 2)
	other := mustPut(t, s, alikes(1, first+1)[0])
	must(t, "Put of another digest", other.N, 0)
	must(t, "Take", s.Take(ids[77]), api.OK)
	must(t, "Put into the gap", mustPut(t, s, l[257]), ids[77])
	mustNotPut(t, s, l[256], api.ErrFull)
	must(t, "Take", s.Take(ids[255]), api.OK)
	mustNotPut(t, s, l[256], api.ErrFull) // one reference is left
	must(t, "Take", s.Take(ids[255]), api.OK)
	must(t, "Put as the last one", mustPut(t, s, l[256]), ids[255])
}

// 9.2, 9.3: a content has as many references as may be.
func TestAllReferences(t *testing.T) {
	s, p := fresh(t, 5)
	id := mustPut(t, s, "x")
	p.entries["c"+id.Sum+"\x00"] = "\xff\xff\xff\xfex"
	must(t, "Put of the last one", mustPut(t, s, "x"), id)
	mustHave(t, s, id, "x", 1<<32-1)
	for _, refuse := range []api.Errno{api.OK, api.ErrDown} { // ErrFull is told ahead of the table's error
		p.refuse = refuse
		mustStay(t, p, "one reference too many", func() {
			mustNotPut(t, s, "x", api.ErrFull)
			must(t, "Again", s.Again(id), api.ErrFull)
		})
	}
	p.refuse = api.OK
	mustHave(t, s, id, "x", 1<<32-1)
	mustCount(t, s, 1, 1)
	must(t, "Take", s.Take(id), api.OK)
	must(t, "Again", s.Again(id), api.OK)
	mustHave(t, s, id, "x", 1<<32-1)
}

// 9.3, 9.4: a content is there as long as it has references.
func TestAgainAndTake(t *testing.T) {
	s, p := fresh(t, 32)
	id := mustPut(t, s, "x")
	other := mustPut(t, s, "other")
	must(t, "Again", s.Again(id), api.OK)
	must(t, "Put", mustPut(t, s, "x"), id)
	for refs := 3; refs > 0; refs-- {
		mustHave(t, s, id, "x", refs)
		mustCount(t, s, 2, 6)
		must(t, "Take", s.Take(id), api.OK)
	}
	mustLack(t, s, id)
	mustFind(t, s, id.Sum)
	mustCount(t, s, 1, 5)
	must(t, "entries", len(p.entries), 1)
	mustStay(t, p, "of none", func() {
		must(t, "Take of none", s.Take(id), api.ErrNone)
		must(t, "Again of none", s.Again(id), api.ErrNone)
	})
	mustHave(t, s, other, "other", 1)
	must(t, "Put once more", mustPut(t, s, "x"), id)
	mustHave(t, s, id, "x", 1)
}

// 9.2, 9.3: the table's error is told behind all others, and nothing is changed.
func TestTableErrors(t *testing.T) {
	for _, refuse := range []api.Errno{api.ErrArg, api.ErrFull, api.ErrState, api.ErrDown, 99} {
		s, p := fresh(t, 16)
		one, two := mustPut(t, s, "one"), mustPut(t, s, "two")
		must(t, "Again", s.Again(two), api.OK)
		p.refuse = refuse
		mustStay(t, p, "what the table refuses", func() {
			mustNotPut(t, s, "new", refuse)
			mustNotPut(t, s, "one", refuse)
			must(t, "Again", s.Again(one), refuse)
			must(t, "Take", s.Take(two), refuse)
			mustNotPut(t, s, strings.Repeat("x", 129), api.ErrLong)
			must(t, "Again of none", s.Again(api.ID{Sum: one.Sum, N: 1}), api.ErrNone)
			must(t, "Take of none", s.Take(api.ID{Sum: one.Sum, N: 1}), api.ErrNone)
		})
		mustHave(t, s, one, "one", 1)
		mustHave(t, s, two, "two", 2)
		mustCount(t, s, 2, 6)
		must(t, "Take of the last reference", s.Take(one), api.OK) // nothing is put for it
		mustLack(t, s, one)
		p.refuse = api.OK
		must(t, "Take", s.Take(two), api.OK)
		mustHave(t, s, two, "two", 1)
		p.keeps = true
		mustStay(t, p, "a Drop that is refused", func() { must(t, "Take", s.Take(two), api.ErrNone) })
		mustHave(t, s, two, "two", 1)
	}
}

// 9.2: a shelf without room refuses, and all stays as it was.
func TestFullShelf(t *testing.T) {
	f, _ := freshShelf(t, 2)
	s := mustNew(t, f, 32)
	var ids []api.ID
	text := func(i int) string { return fmt.Sprintf("%0128d", i) }
	for {
		id, e := s.Put(text(len(ids)))
		if e != api.OK {
			must(t, "Put", e, api.ErrFull)
			must(t, "the ID beside an error", id, api.ID{})
			break
		}
		ids = append(ids, id)
	}
	must(t, "contents", len(ids), 2*(1023/(3+34+132)))
	mustNotPut(t, s, text(len(ids)), api.ErrFull)
	mustCount(t, s, len(ids), 128*len(ids))
	for i, id := range ids {
		must(t, "Put of one that is there", mustPut(t, s, text(i)), id)
		mustHave(t, s, id, text(i), 2)
	}
	mustLack(t, s, api.ID{Sum: s.Digest(text(len(ids)))})
	for range 2 {
		must(t, "Take", s.Take(ids[0]), api.OK)
	}
	mustPut(t, s, text(len(ids)))
}

// 9.3: IDs that none has, though a byte of theirs, or a piece, is one's that is there.
func TestNoSuchID(t *testing.T) {
	p := newPlain()
	s, narrow, wide := mustNew(t, p, 4), mustNew(t, p, 3), mustNew(t, p, 5)
	id, less, more := mustPut(t, s, "x"), mustPut(t, narrow, "x"), mustPut(t, wide, "x")
	sum := id.Sum
	wrong := []api.ID{
		less, more, {}, {N: 1}, {Sum: "c"}, {Sum: sum[:3]}, {Sum: sum + "\x00"}, {Sum: sum + sum}, {Sum: "\x00" + sum}, {Sum: strings.Repeat("x", 70)},
		{Sum: sum, N: 1}, {Sum: sum, N: 255}, {Sum: sum, N: -1}, {Sum: sum, N: 256}, {Sum: sum, N: 512}, {Sum: sum, N: -256},
		{Sum: sum, N: 1 << 32}, {Sum: sum, N: math.MaxInt}, {Sum: sum, N: math.MinInt}, {Sum: sum[:3] + "?"},
	}
	mustStay(t, p, "IDs that none has", func() {
		for _, w := range wrong {
			mustLack(t, s, w)
			must(t, "Again", s.Again(w), api.ErrNone)
			must(t, "Take", s.Take(w), api.ErrNone)
		}
	})
	mustHave(t, s, id, "x", 1)
	mustHave(t, narrow, less, "x", 1)
	mustHave(t, wide, more, "x", 1)
}

// 9.3: none of a text of another length than the width.
func TestFindLengths(t *testing.T) {
	for _, width := range []int{1, 2, 31, 32} {
		s, _ := fresh(t, width)
		id := mustPut(t, s, "x")
		whole := wholeSum("x") + "more"
		for n := range len(whole) {
			if n == width {
				mustFind(t, s, whole[:n], id)
			} else {
				mustFind(t, s, whole[:n])
			}
		}
		mustFind(t, s, strings.Repeat("\x00", width))
		mustFind(t, s, strings.Repeat("\xff", width))
		mustFind(t, s, "")
	}
}

// 9.3: the least and the greatest digest are found and counted.
func TestEdgesOfDigests(t *testing.T) {
	for _, first := range []byte{0, 255} {
		s, p := fresh(t, 1)
		l := alikes(256, first)
		bytes := 0
		for n, data := range l {
			must(t, "Put", mustPut(t, s, data), api.ID{Sum: string([]byte{first}), N: n})
			bytes += len(data)
		}
		for _, k := range []string{"b", "b\xff", "b\xff\xff", "c", "c\x00", "c\xff", "d", "d\x00\x00", "d\xff\xff", "b\xff\xff\xff", "c\x00\x00\x00", "c\xff\xff\x00"} {
			p.entries[k] = "\x00\x00\x00\x01other"
		}
		mustCount(t, s, 256, bytes)
		must(t, "found", len(s.Find(string([]byte{first}))), 256)
		mustNotPut(t, s, alikes(257, first)[256], api.ErrFull)
	}
}

// Words: entries of others between a store's own, more than there are numbers, are passed over and stay.
func TestEntriesOfOthers(t *testing.T) {
	s, p := fresh(t, 1)
	l := alikes(4, 9)
	for n, data := range l[:3] {
		must(t, "Put", mustPut(t, s, data), api.ID{Sum: "\x09", N: n})
	}
	for i := range 600 {
		p.entries["c\x09\x00"+fmt.Sprint(i)] = "\x00\x00\x00\x05" + l[1]
		p.entries["c\x09"+fmt.Sprint(i)+"?"] = "\x00\x00\x00\x05" + l[3]
		p.entries["c\x01"+fmt.Sprint(i)+"?"] = ""
		p.entries["l\x09"+fmt.Sprint(i%10)] = "\x00\x00\x00\x01" + l[3]
	}
	bytes := len(l[0]) + len(l[1]) + len(l[2])
	mustCount(t, s, 3, bytes)
	mustFind(t, s, "\x09", api.ID{Sum: "\x09", N: 0}, api.ID{Sum: "\x09", N: 1}, api.ID{Sum: "\x09", N: 2})
	before := maps.Clone(p.entries)
	must(t, "Put of one that is there", mustPut(t, s, l[2]), api.ID{Sum: "\x09", N: 2})
	must(t, "Put", mustPut(t, s, l[3]), api.ID{Sum: "\x09", N: 3})
	must(t, "Take", s.Take(api.ID{Sum: "\x09", N: 3}), api.OK)
	must(t, "Take", s.Take(api.ID{Sum: "\x09", N: 2}), api.OK)
	if !maps.Equal(before, p.entries) {
		t.Fatal("entries of others are changed")
	}
}

// Words, 9.4: stores of all widths over one table don't touch one another.
func TestWidthsInOneTable(t *testing.T) {
	p := newPlain()
	var stores []*Store
	for width := 1; width <= 32; width++ {
		stores = append(stores, mustNew(t, p, width))
	}
	for i, s := range stores {
		for range i + 1 {
			mustPut(t, s, "x")
		}
		for k := range i {
			mustPut(t, s, fmt.Sprint("y", k))
		}
	}
	for i, s := range stores {
		id := api.ID{Sum: wholeSum("x")[:i+1]}
		mustHave(t, s, id, "x", i+1)
		bytes := 1
		for k := range i {
			bytes += len(fmt.Sprint("y", k))
		}
		mustCount(t, s, i+1, bytes)
	}
}

// Words: an entry whose value is none of a content's tells no content, and its number is free.
func TestValuesOfNoContent(t *testing.T) {
	for _, value := range []string{"", "\x00", "\x00\x00\x01", "x", "\x00\x00\x00\x00", "\x00\x00\x00\x00x", "\x00\x00\x00\x01" + strings.Repeat("x", 129), strings.Repeat("x", 400)} {
		s, p := fresh(t, 1)
		l := alikes(2, 33)
		id := api.ID{Sum: "\x21"}
		mustPut(t, s, l[0])
		must(t, "Put", mustPut(t, s, l[1]), api.ID{Sum: "\x21", N: 1})
		p.entries["c\x21\x00"] = value
		mustLack(t, s, id)
		mustFind(t, s, "\x21", api.ID{Sum: "\x21", N: 1})
		mustCount(t, s, 1, len(l[1]))
		mustStay(t, p, "no content", func() {
			must(t, "Again", s.Again(id), api.ErrNone)
			must(t, "Take", s.Take(id), api.ErrNone)
		})
		must(t, "Put", mustPut(t, s, l[0]), id)
		mustHave(t, s, id, l[0], 1)
	}
	s, p := fresh(t, 1)
	p.entries["c\x21\x00"] = "\x00\x00\x00\x01"
	mustHave(t, s, api.ID{Sum: "\x21"}, "", 1)
	p.entries["c\x21\x00"] = "\x00\x00\x00\x01" + strings.Repeat("x", 128)
	mustHave(t, s, api.ID{Sum: "\x21"}, strings.Repeat("x", 128), 1)
}

// 9.3: a nil store.
func TestNil(t *testing.T) {
	var s *Store
	must(t, "Digest", s.Digest("x"), "")
	mustNotPut(t, s, "x", api.ErrArg)
	mustNotPut(t, s, strings.Repeat("x", 129), api.ErrArg)
	for _, id := range []api.ID{{}, {Sum: "x"}, {Sum: "x", N: -1}} {
		must(t, "Again", s.Again(id), api.ErrArg)
		must(t, "Take", s.Take(id), api.ErrArg)
		mustLack(t, s, id)
	}
	mustFind(t, s, "")
	mustFind(t, s, "x")
	mustCount(t, s, 0, 0)
}

// P1: a table that is a nil Shelf refuses, and nothing panics.
func TestNilShelf(t *testing.T) {
	var f *shelf.Shelf
	s := mustNew(t, f, 2)
	mustNotPut(t, s, "x", api.ErrArg)
	id := api.ID{Sum: s.Digest("x")}
	must(t, "Again", s.Again(id), api.ErrNone)
	must(t, "Take", s.Take(id), api.ErrNone)
	mustLack(t, s, id)
	mustFind(t, s, id.Sum)
	mustCount(t, s, 0, 0)
}

// Memory: what is found is the caller's.
func TestFindIsNewMemory(t *testing.T) {
	s, _ := fresh(t, 1)
	l := alikes(3, 50)
	var ids []api.ID
	for _, data := range l {
		ids = append(ids, mustPut(t, s, data))
	}
	found, other := s.Find("\x32"), s.Find("\x32")
	found[0] = api.ID{Sum: "?", N: 9}
	found = append(found[:1], api.ID{Sum: "!", N: 8})
	mustFind(t, s, "\x32", ids...)
	if !slices.Equal(other, ids) {
		t.Fatalf("another answer: %#v", other)
	}
}

// What is told changes nothing.
func TestTellingChangesNothing(t *testing.T) {
	s, p := fresh(t, 3)
	id := mustPut(t, s, "x")
	told := p.told
	s.Get(id)
	s.Refs(id)
	s.Find(id.Sum)
	s.Digest("x")
	s.Count()
	must(t, "changes", p.told, told)
}

// A store keeps nothing itself: it goes along with its table, and two over one table are one.
func TestGoesAlongWithTheTable(t *testing.T) {
	f, d := freshShelf(t, 6)
	s, twin := mustNew(t, f, 32), mustNew(t, f, 32)
	id := mustPut(t, s, "x")
	mustHave(t, twin, id, "x", 1)
	must(t, "Again", twin.Again(id), api.OK)
	mustHave(t, s, id, "x", 2)
	must(t, "Commit", f.Commit(), api.OK)
	other := mustPut(t, s, "other")
	must(t, "Take", s.Take(id), api.OK)
	must(t, "Take", s.Take(id), api.OK)
	mustLack(t, s, id)
	f.Abort()
	mustHave(t, s, id, "x", 2)
	mustLack(t, s, other)
	mustCount(t, s, 1, 1)
	d.Fail(nil)
	must(t, "Start", d.Start(), api.OK)
	later := mustNew(t, openShelf(t, d, 6), 32)
	mustHave(t, later, id, "x", 2)
	mustCount(t, later, 1, 1)
}

// model is what a store is to have: of each content its number and its references.
type model map[string]struct{ n, refs int }

// freeNumber is the least number that no content of a digest has, and whether there is one.
func (m model) freeNumber(sum string) (int, bool) {
	taken := map[int]int{}
	for data, c := range m {
		if strings.HasPrefix(wholeSum(data), sum) {
			taken[c.n]++
		}
	}
	for n := range 256 {
		if taken[n] == 0 {
			return n, true
		}
	}
	return 0, false
}

// mustBe holds all that a store tells against a model.
func mustBe(t *testing.T, s *Store, width int, m model) {
	t.Helper()
	bytes := 0
	bySum := map[string][]api.ID{}
	seen := map[api.ID]int{}
	for data, c := range m {
		id := api.ID{Sum: wholeSum(data)[:width], N: c.n}
		mustHave(t, s, id, data, c.refs)
		bytes += len(data)
		bySum[id.Sum] = append(bySum[id.Sum], id)
		seen[id]++
	}
	must(t, "unlike IDs", len(seen), len(m))
	mustCount(t, s, len(m), bytes)
	for sum, ids := range bySum {
		slices.SortFunc(ids, func(a, b api.ID) int { return a.N - b.N })
		mustFind(t, s, sum, ids...)
	}
}

// step does something to a store and a model alike.
func step(t *testing.T, r *rand.Rand, s *Store, width int, m model, texts []string) {
	t.Helper()
	data := texts[r.Intn(len(texts))]
	c, there := m[data]
	sum := wholeSum(data)[:width]
	want := api.ErrNone
	if there {
		want = api.OK
	} else {
		c.n, _ = m.freeNumber(sum) // which nobody has
	}
	id := api.ID{Sum: sum, N: c.n}
	switch r.Intn(7) {
	case 0, 1:
		must(t, "Put", mustPut(t, s, data), id)
		c.refs++
	case 2:
		must(t, "Again", s.Again(id), want)
		if there {
			c.refs++
		}
	default:
		must(t, "Take", s.Take(id), want)
		if there {
			c.refs--
		}
	}
	m[data] = c
	if c.refs == 0 {
		delete(m, data)
	}
}

// 9.2 to 9.4: whatever is put and taken, each content is there once, under an ID of its own, as long as its references
// tell: at narrow digests, which many share, and at whole ones; in memory, and on a shelf.
func TestAgainstModel(t *testing.T) {
	for _, width := range []int{1, 2, 32} {
		texts := append(alikes(40, 60), alikes(20, 61)...)
		for i := range 40 {
			texts = append(texts, strings.Repeat("r", i*128/39))
		}
		for seed := range int64(4) {
			f, _ := freshShelf(t, 40)
			var table Table = f
			if seed%2 == 0 {
				table = newPlain()
			}
			s, r, m := mustNew(t, table, width), rand.New(rand.NewSource(seed)), model{}
			for i := range 2000 {
				step(t, r, s, width, m, texts)
				if i%20 == 0 {
					mustBe(t, s, width, m)
				}
			}
			mustBe(t, s, width, m)
			for data, c := range m {
				for range c.refs {
					must(t, "Take", s.Take(api.ID{Sum: wholeSum(data)[:width], N: c.n}), api.OK)
				}
			}
			mustCount(t, s, 0, 0)
			must(t, "entries left", len(table.Range("", strings.Repeat("\xff", 65), 9)), 0)
		}
	}
}
