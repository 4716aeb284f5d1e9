package shelf

import (
	"fmt"
	"maps"
	"math"
	"math/rand"
	"slices"
	"strings"
	"testing"

	"strongroom/api"
	"strongroom/disk"
	"strongroom/journal"
)

// last is a text behind all keys.
var last = strings.Repeat("\xff", 65)

// must holds an answer against the one that is asked for.
func must(t *testing.T, what string, got, want any) {
	t.Helper()
	if got != want {
		t.Fatalf("%s: %v, not %v", what, got, want)
	}
}

func mustDisk(t *testing.T, pages int) *disk.Disk {
	t.Helper()
	d, e := disk.New(journal.Need(pages))
	must(t, "disk.New", e, api.OK)
	return d
}

func mustJournal(t *testing.T, d *disk.Disk, pages int) *journal.Journal {
	t.Helper()
	j, e := journal.Open(d, pages)
	must(t, "journal.Open", e, api.OK)
	return j
}

func mustOpen(t *testing.T, j *journal.Journal) *Shelf {
	t.Helper()
	s, e := Open(j)
	if s == nil || e != api.OK {
		t.Fatalf("Open: %v, %v", s, e)
	}
	return s
}

func mustRefuse(t *testing.T, j *journal.Journal, want api.Errno) {
	t.Helper()
	if s, e := Open(j); s != nil || e != want {
		t.Fatalf("Open: %v, %v, not %v", s, e, want)
	}
}

// fresh is an empty table in a new store, and the disk below it.
func fresh(t *testing.T, pages int) (*Shelf, *disk.Disk) {
	t.Helper()
	d := mustDisk(t, pages)
	return mustOpen(t, mustJournal(t, d, pages)), d
}

// again is the table that is found when the journal is opened again.
func again(t *testing.T, d *disk.Disk, pages int) *Shelf {
	t.Helper()
	return mustOpen(t, mustJournal(t, d, pages))
}

func mustPut(t *testing.T, s *Shelf, key, value string) {
	t.Helper()
	if e := s.Put(key, value); e != api.OK {
		t.Fatalf("Put(%.8q.., %d bytes): %v", key, len(value), e)
	}
}

func mustGet(t *testing.T, s *Shelf, key, want string) {
	t.Helper()
	if v, ok := s.Get(key); v != want || !ok {
		t.Fatalf("Get(%.8q): %.8q, %v, not %.8q", key, v, ok, want)
	}
}

func mustLack(t *testing.T, s *Shelf, key string) {
	t.Helper()
	if v, ok := s.Get(key); v != "" || ok {
		t.Fatalf("Get(%.8q): %.8q, %v", key, v, ok)
	}
}

func mustRange(t *testing.T, s *Shelf, from, to string, most int, want ...api.Pair) {
	t.Helper()
	if l := s.Range(from, to, most); !slices.Equal(l, want) {
		t.Fatalf("Range(%.8q, %.8q, %d): %.40q, not %.40q", from, to, most, l, want)
	}
}

// table is what a shelf is to have.
type table map[string]string

// pairs are a table's entries by rising key.
func (m table) pairs() []api.Pair {
	var l []api.Pair
	for _, k := range slices.Sorted(maps.Keys(m)) {
		l = append(l, api.Pair{Key: k, Value: m[k]})
	}
	return l
}

func (m table) size() int {
	n := 0
	for k, v := range m {
		n += 3 + len(k) + len(v)
	}
	return n
}

// mustBe holds all that a shelf tells of its entries against a table.
func mustBe(t *testing.T, s *Shelf, m table) {
	t.Helper()
	must(t, "Len", s.Len(), len(m))
	must(t, "Size", s.Size(), m.size())
	if l := s.Range("", last, math.MaxInt); !slices.Equal(l, m.pairs()) {
		t.Fatalf("Range: other entries, %d of them, not %d", len(l), len(m))
	}
	for k, v := range m {
		mustGet(t, s, k, v)
	}
	mustBeSound(t, s)
}

// mustBeSound looks the leaves of a shelf over.
func mustBeSound(t *testing.T, s *Shelf) {
	t.Helper()
	pages, before := map[int]int{}, ""
	for i, x := range s.leaves {
		pages[x.page]++
		if i == 0 && x.page != 0 || x.page < 0 || x.page >= s.journal.Pages() || pages[x.page] > 1 {
			t.Fatalf("the leaf %d has the page %d", i, x.page)
		}
		size := 0
		for _, p := range x.entries {
			if p.Key <= before {
				t.Fatalf("the leaf %d: %.8q behind %.8q", i, p.Key, before)
			}
			before = p.Key
			size += 3 + len(p.Key) + len(p.Value)
		}
		if size != x.size || size > 1023 || cap(x.entries) != len(x.entries) {
			t.Fatalf("the leaf %d: a size of %d, not %d; room for %d entries, not %d", i, x.size, size, cap(x.entries), len(x.entries))
		}
		if i > 0 && s.leaves[i-1].size+size <= 1023 {
			t.Fatalf("the leaves %d and %d fit into one", i-1, i)
		}
	}
}

// text is a text of so many bytes of any kind.
func text(r *rand.Rand, n int) string {
	b := make([]byte, n)
	for i := range b {
		b[i] = byte(r.Intn(256))
	}
	return string(b)
}

// fewest is in how few pages of 1023 bytes entries can stand in their order: looked for from behind, for every place
// at which a page may begin.
func fewest(l []api.Pair) int {
	need := make([]int, len(l)+1)
	for i := len(l) - 1; i >= 0; i-- {
		need[i] = math.MaxInt
		size := 0
		for k := i; k < len(l); k++ {
			size += 3 + len(l[k].Key) + len(l[k].Value)
			if size > 1023 {
				break
			}
			need[i] = min(need[i], 1+need[k+1])
		}
	}
	return need[0]
}

// 8.1: what is refused, and in which order.
func TestOpenRefuses(t *testing.T) {
	mustRefuse(t, nil, api.ErrArg)
	d := mustDisk(t, 2)
	one, two := mustJournal(t, d, 1), mustJournal(t, d, 2)
	mustRefuse(t, one, api.ErrArg)
	mustOpen(t, two)
	d.Fail(nil)
	mustRefuse(t, nil, api.ErrArg)
	mustRefuse(t, one, api.ErrArg)
	mustRefuse(t, two, api.ErrDown)
	must(t, "Start", d.Start(), api.OK)
	mustOpen(t, two)
}

// 8.1: pages that are all nought are an empty table, of stores of all sizes.
func TestOpenOfNoughts(t *testing.T) {
	for pages := 2; pages <= 128; pages++ {
		s, d := fresh(t, pages)
		mustBe(t, s, table{})
		mustRange(t, s, "", last, 9)
		mustLack(t, s, "a")
		must(t, "Drop", s.Drop("a"), false)
		must(t, "writes", d.Writes(), 0)
		must(t, "Commit", s.Commit(), api.OK)
		must(t, "writes of nothing", d.Writes(), 0)
	}
}

// 8.1: what a Commit has left is found again, and so is what a table had by then that grew, shrank and was empty.
func TestOpenAgain(t *testing.T) {
	for _, pages := range []int{2, 3, 7, 64, 128} {
		r := rand.New(rand.NewSource(int64(pages)))
		s, d := fresh(t, pages)
		m := table{}
		for range 4 {
			for len(m) < 40*pages {
				k, v := text(r, 1+r.Intn(8)), text(r, r.Intn(12))
				mustPut(t, s, k, v)
				m[k] = v
			}
			must(t, "Commit", s.Commit(), api.OK)
			s = again(t, d, pages)
			mustBe(t, s, m)
			for k := range maps.Clone(m) {
				if r.Intn(20) > 0 {
					must(t, "Drop", s.Drop(k), true)
					delete(m, k)
				}
			}
			must(t, "Commit", s.Commit(), api.OK)
			s = again(t, d, pages)
			mustBe(t, s, m)
			for k := range m {
				must(t, "Drop", s.Drop(k), true)
			}
			clear(m)
			must(t, "Commit", s.Commit(), api.OK)
			s = again(t, d, pages)
			mustBe(t, s, m)
		}
	}
}

// 8.1: what wasn't committed isn't found.
func TestOpenFindsOnlyCommits(t *testing.T) {
	s, d := fresh(t, 3)
	mustPut(t, s, "a", "x")
	must(t, "writes", d.Writes(), 0)
	mustBe(t, again(t, d, 3), table{})
	must(t, "Commit", s.Commit(), api.OK)
	mustPut(t, s, "b", "y")
	must(t, "Drop", s.Drop("a"), true)
	mustBe(t, again(t, d, 3), table{"a": "x"})
	mustBe(t, s, table{"b": "y"})
}

// 8.1: the journal isn't kept apart: what is committed stands in its pages, and its disk that goes down is the table's.
func TestJournalIsNotKeptApart(t *testing.T) {
	d := mustDisk(t, 3)
	j := mustJournal(t, d, 3)
	s, r := mustOpen(t, j), mustOpen(t, j)
	mustPut(t, s, "a", "x")
	must(t, "Commit", s.Commit(), api.OK)
	mustBe(t, mustOpen(t, j), table{"a": "x"})
	mustBe(t, r, table{})
	d.Fail(nil)
	must(t, "Commit of a disk that is down", s.Commit(), api.ErrDown)
}

// 8.3: of several tables of one journal the pages have the one that was committed last, as a whole.
func TestTablesOfOneJournal(t *testing.T) {
	d := mustDisk(t, 12)
	j := mustJournal(t, d, 12)
	r := rand.New(rand.NewSource(5))
	shelves := []*Shelf{mustOpen(t, j), mustOpen(t, j)}
	tables := []table{{}, {}}
	for i := range 300 {
		s, m := shelves[i%2], tables[i%2]
		for range r.Intn(9) {
			churn(t, r, s, m, 510*10)
		}
		must(t, "Commit", s.Commit(), api.OK)
		mustBe(t, again(t, d, 12), m)
		s.Abort()
		mustBe(t, s, m)
	}
}

// churn puts or drops something, in a table whose sizes stay within a bound.
func churn(t *testing.T, r *rand.Rand, s *Shelf, m table, most int) {
	t.Helper()
	k := fmt.Sprint(r.Intn(90))
	if r.Intn(2) == 0 {
		k += strings.Repeat("k", 60)
	}
	_, there := m[k]
	if r.Intn(3) == 0 {
		must(t, "Drop", s.Drop(k), there)
		delete(m, k)
		return
	}
	v := text(r, r.Intn(401)/(1+r.Intn(40)))
	if m.size()+3+len(k)+len(v) > most && !there {
		return
	}
	if there && m.size()-len(m[k])+len(v) > most {
		return
	}
	mustPut(t, s, k, v)
	m[k] = v
}

// set lays pages into a store, each padded by noughts.
func set(t *testing.T, j *journal.Journal, pages map[int]string) {
	t.Helper()
	var l []journal.Change
	for i, s := range pages {
		l = append(l, journal.Change{Page: i, Data: s + string(make([]byte, 1024-len(s)))})
	}
	must(t, "the journal's Commit", j.Commit(l), api.OK)
}

// entry is an entry's bytes.
func entry(key, value string) string {
	return string([]byte{byte(len(key)), byte(len(value)), byte(len(value) >> 8)}) + key + value
}

// 8.1: pages that no Commit leaves are refused.
func TestOpenOfOtherPages(t *testing.T) {
	a, b := strings.Repeat("a", 400), strings.Repeat("b", 300)
	full := entry("a", a) + entry("b", a)
	for what, pages := range map[string]map[int]string{
		"a key that is too long":           {0: "\x00" + entry(strings.Repeat("k", 65), "")},
		"a key as long as a byte tells":    {0: "\x00" + entry(strings.Repeat("k", 255), "")},
		"a value that is too long":         {0: "\x00" + entry("k", a+"x")},
		"a value as long as can be told":   {0: "\x00\x01\xff\xffk"},
		"an entry behind the end":          {0: "\x00" + full + entry("c", strings.Repeat("c", 400))[:1023-len(full)]},
		"lengths behind the end":           {0: "\x00" + full + entry("c", strings.Repeat("c", 210)) + "\x01"},
		"lengths behind the end, two":      {0: "\x00" + full + entry("c", strings.Repeat("c", 209)) + "\x01\x00"},
		"a key twice":                      {0: "\x00" + entry("k", "x") + entry("k", "y")},
		"keys that fall":                   {0: "\x00" + entry("k", "x") + entry("a", "y")},
		"no noughts behind the entries":    {0: "\x00" + entry("k", "x") + "\x00\x00x"},
		"no noughts in an empty page":      {0: "\x00\x00" + entry("k", "x")},
		"a last byte that isn't nought":    {0: string(make([]byte, 1023)) + "\x01"},
		"a page that isn't there":          {0: "\x03" + full},
		"a page far behind the last one":   {0: "\xff" + full},
		"an empty page ahead":              {0: "\x01", 1: "\x00" + full},
		"an empty page behind":             {0: "\x01" + full},
		"an empty page that leads back":    {0: "\x01", 1: "\x01"},
		"a page that leads to itself":      {0: "\x01" + full, 1: "\x01" + entry("c", a)},
		"pages that lead to each other":    {0: "\x01" + full, 1: "\x02" + entry("c", a) + entry("d", a), 2: "\x01" + entry("e", a)},
		"two pages that fit into one":      {0: "\x01" + entry("a", a), 1: "\x00" + entry("b", a)},
		"two that would just fit into one": {0: "\x01" + full, 1: "\x00" + entry("c", strings.Repeat("c", 1023-4-len(full)))},
		"keys that fall from page to page": {0: "\x01" + entry("c", a) + entry("d", a), 1: "\x00" + entry("b", b)},
		"a key twice in two pages":         {0: "\x01" + full, 1: "\x00" + entry("b", b)},
		"a page behind that is no such":    {0: "\x01" + full, 1: "\x00\xff" + b},
	} {
		t.Run(what, func(t *testing.T) {
			j := mustJournal(t, mustDisk(t, 3), 3)
			set(t, j, pages)
			mustRefuse(t, j, api.ErrForm)
		})
	}
	for what, pages := range map[string]map[int]string{ // the same, but for what is wrong there
		"the longest key and value": {0: "\x00" + entry(strings.Repeat("k", 64), a)},
		"a full page":               {0: "\x00" + full + entry("c", strings.Repeat("c", 1023-4-len(full)))},
		"pages in a chain":          {0: "\x02" + full, 2: "\x01" + entry("c", b), 1: "\x00" + entry("d", a) + entry("e", a)},
		"two that just don't fit":   {0: "\x01" + full, 1: "\x00" + entry("c", strings.Repeat("c", 1024-4-len(full)))},
	} {
		t.Run(what, func(t *testing.T) {
			j := mustJournal(t, mustDisk(t, 3), 3)
			set(t, j, pages)
			mustBeSound(t, mustOpen(t, j))
		})
	}
}

// 8.1, P1: of any pages whatever Open tells ErrForm, or a table for which all promises hold.
func TestOpenOfAnyPages(t *testing.T) {
	r := rand.New(rand.NewSource(8))
	some := 0
	for i := range 3000 {
		pages := 2 + r.Intn(5)
		s, d := fresh(t, pages)
		m := table{}
		for range r.Intn(60) {
			churn(t, r, s, m, 510*(pages-2))
		}
		must(t, "Commit", s.Commit(), api.OK)
		j := mustJournal(t, d, pages)
		spoil(t, r, j, i%3)
		s, e := Open(j)
		if e != api.OK {
			must(t, "Open of a torn page", e, api.ErrForm)
			must(t, "the table beside that", s, (*Shelf)(nil))
			continue
		}
		some++
		m = table{}
		for _, p := range s.Range("", last, math.MaxInt) {
			m[p.Key] = p.Value
			if len(p.Key) == 0 || len(p.Key) > 64 || len(p.Value) > 400 {
				t.Fatalf("an entry %q", p)
			}
		}
		mustBe(t, s, m)
		for range 30 {
			churn(t, r, s, m, 510*(pages-2))
		}
		must(t, "Commit", s.Commit(), api.OK)
		mustBe(t, again(t, d, pages), m)
	}
	if some == 0 || some == 3000 {
		t.Fatalf("%d of 3000 were opened", some)
	}
}

// spoil makes something else of a store's pages: of some bytes, of a whole page, or of all.
func spoil(t *testing.T, r *rand.Rand, j *journal.Journal, how int) {
	t.Helper()
	var l []journal.Change
	for i := range j.Pages() {
		s, e := j.Read(i)
		must(t, "Read", e, api.OK)
		b := []byte(s)
		switch {
		case how == 2:
			b = []byte(text(r, 1024))
		case how == 1 && r.Intn(j.Pages()) == 0:
			from, _ := j.Read(r.Intn(j.Pages()))
			b = []byte(from)
		case how == 0 && r.Intn(j.Pages()) == 0:
			b[r.Intn(1024)>>r.Intn(11)] ^= 1 << r.Intn(8)
		}
		l = append(l, journal.Change{Page: i, Data: string(b)})
	}
	must(t, "the journal's Commit", j.Commit(l), api.OK)
}

// 8.2: the example, and others as small as that.
func TestExamples(t *testing.T) {
	s, _ := fresh(t, 3)
	mustPut(t, s, "a", "x")
	mustPut(t, s, "b", "y")
	mustRange(t, s, "a", "b", 1, api.Pair{Key: "a", Value: "x"})
	must(t, "Len", s.Len(), 2)
	must(t, "Size", s.Size(), 10)
	mustPut(t, s, "a", "other")
	mustGet(t, s, "a", "other")
	must(t, "Len", s.Len(), 2)
	must(t, "Size", s.Size(), 14)
	mustPut(t, s, "a", "")
	mustGet(t, s, "a", "")
	must(t, "Size", s.Size(), 9)
	must(t, "Drop", s.Drop("a"), true)
	must(t, "Drop once more", s.Drop("a"), false)
	mustLack(t, s, "a")
	mustBe(t, s, table{"b": "y"})
}

// 8.2: which keys and values there are; ErrArg also where there is no room.
func TestPutRefuses(t *testing.T) {
	s, _ := fresh(t, 4)
	key, value := strings.Repeat("k", 64), strings.Repeat("v", 400)
	for round := range 2 {
		m := table{}
		for _, p := range s.Range("", last, math.MaxInt) {
			m[p.Key] = p.Value
		}
		must(t, "an empty key", s.Put("", "x"), api.ErrArg)
		must(t, "an empty key and value", s.Put("", ""), api.ErrArg)
		must(t, "a long key", s.Put(key+"k", "x"), api.ErrArg)
		must(t, "a long value", s.Put("k", value+"v"), api.ErrArg)
		must(t, "a long key and value", s.Put(key+"k", value+"v"), api.ErrArg)
		must(t, "a far longer key", s.Put(strings.Repeat("k", 256+5), "x"), api.ErrArg)
		must(t, "a far longer value", s.Put("k", strings.Repeat("v", 1<<16)), api.ErrArg)
		mustBe(t, s, m)
		mustLack(t, s, "")
		mustLack(t, s, key+"k")
		must(t, "Drop of no key", s.Drop(""), false)
		must(t, "Drop of a long key", s.Drop(key+"k"), false)
		if round == 0 {
			fill(t, s, m)
			must(t, "Put", s.Put(key, value), api.ErrFull)
		}
	}
	s, d := fresh(t, 4)
	m := table{key: value, "\x00": "", "k": value, key[1:]: ""}
	for k, v := range m {
		mustPut(t, s, k, v)
	}
	mustBe(t, s, m)
	must(t, "Commit", s.Commit(), api.OK)
	mustBe(t, again(t, d, 4), m)
}

// fill puts entries of all sizes till there is no room for the greatest one.
func fill(t *testing.T, s *Shelf, m table) {
	t.Helper()
	for i := 0; ; i++ {
		k, v := fmt.Sprintf("%03d", i)+strings.Repeat("f", 61), strings.Repeat("f", 400)
		if e := s.Put(k, v); e != api.OK {
			must(t, "Put", e, api.ErrFull)
			return
		}
		m[k] = v
	}
}

// 8.2: keys are held against each other byte by byte.
func TestOrderOfKeys(t *testing.T) {
	s, d := fresh(t, 4)
	rising := []string{"\x00", "\x00\x00", "\x00\x01", "\x01", "A", "AA", "B", "a", "a\x00", "aa", "b", "\x7f", "\x80", "\xc3\xa9", "\xef\xbf\xbd", "\xf0\x9f\x98\x80", "\xff", "\xff\xff"}
	m := table{}
	for i := range rising {
		k := rising[i*7%len(rising)] // in an order that is none
		mustPut(t, s, k, "v"+k)
		m[k] = "v" + k
	}
	mustBe(t, s, m)
	l := s.Range("", last, math.MaxInt)
	must(t, "how many", len(l), len(rising))
	for i, p := range l {
		must(t, "a key", p.Key, rising[i])
	}
	must(t, "Commit", s.Commit(), api.OK)
	mustBe(t, again(t, d, 4), m)
}

// 8.2: a range's ends, which need be no keys, and how many it tells.
func TestRange(t *testing.T) {
	s, _ := fresh(t, 30)
	m := table{}
	for i := range 120 { // over many leaves
		k, v := fmt.Sprintf("k%03d", 2*i), strings.Repeat("v", i)
		mustPut(t, s, k, v)
		m[k] = v
	}
	if len(s.leaves) < 5 {
		t.Fatalf("%d leaves", len(s.leaves))
	}
	all := m.pairs()
	ends := []string{"", "\x00", "k", "k0", strings.Repeat("k", 65), last}
	for i := range 241 {
		ends = append(ends, fmt.Sprintf("k%03d", i))
	}
	for _, from := range ends {
		for _, to := range ends {
			var want []api.Pair
			for _, p := range all {
				if from <= p.Key && p.Key <= to {
					want = append(want, p)
				}
			}
			mustRange(t, s, from, to, math.MaxInt, want...)
		}
	}
	for most := range 123 {
		mustRange(t, s, "", last, most, all[:min(most, len(all))]...)
		mustRange(t, s, "k008", "k238", most, all[4:min(4+most, len(all))]...)
	}
	for _, most := range []int{-1, -2, math.MinInt} {
		mustRange(t, s, "", last, most)
		mustRange(t, s, "k000", "k000", most)
	}
	mustRange(t, s, "k002", "k000", 9)
	mustRange(t, s, "k002", "k002", 9, all[1])
	mustRange(t, s, "k003", "k003", 9)
}

// Memory: what a range tells is the caller's.
func TestRangeIsNewMemory(t *testing.T) {
	s, _ := fresh(t, 4)
	m := table{"a": "x", "b": "y", "c": "z"}
	for k, v := range m {
		mustPut(t, s, k, v)
	}
	l := s.Range("a", "b", 9)
	other := s.Range("a", "b", 9)
	l[0] = api.Pair{Key: "z", Value: "z"}
	l = append(l, api.Pair{Key: "q", Value: "q"})
	l[1].Value = "w"
	mustBe(t, s, m)
	if !slices.Equal(other, m.pairs()[:2]) {
		t.Fatalf("another answer: %q", other)
	}
}

// 8.2, 8.3, 8.5: a table is a map that is in order, and goes back to what it was, whatever is done to it.
func TestAgainstMap(t *testing.T) {
	for seed := range int64(12) {
		r := rand.New(rand.NewSource(seed))
		pages := 2 + r.Intn(12)
		s, d := fresh(t, pages)
		now, good := table{}, table{}
		for i := range 1500 {
			switch c := r.Intn(40); {
			case c == 0:
				must(t, "Commit", s.Commit(), api.OK)
				good = maps.Clone(now)
			case c == 1:
				s.Abort()
				now = maps.Clone(good)
			case c == 2:
				s = again(t, d, pages)
				now = maps.Clone(good)
			default:
				churnFull(t, r, s, now, pages)
			}
			if i%10 == 0 {
				mustBe(t, s, now)
			}
			k := fmt.Sprint(r.Intn(200))
			if v, ok := now[k]; ok {
				mustGet(t, s, k, v)
			} else {
				mustLack(t, s, k)
			}
		}
		mustBe(t, s, now)
	}
}

// churnFull puts or drops something, also where there may be no room: then there is none in whatever leaves.
func churnFull(t *testing.T, r *rand.Rand, s *Shelf, m table, pages int) {
	t.Helper()
	k := fmt.Sprint(r.Intn(200))
	_, there := m[k]
	if r.Intn(4) == 0 {
		must(t, "Drop", s.Drop(k), there)
		delete(m, k)
		return
	}
	next := maps.Clone(m)
	next[k] = text(r, r.Intn(401)/(1+r.Intn(4)))
	want := api.OK
	if fewest(next.pairs()) > pages {
		want = api.ErrFull
	}
	must(t, "Put", s.Put(k, next[k]), want)
	if want == api.OK {
		m[k] = next[k]
	}
}

// 8.2: a Put for which there is no room changes nothing: what it had for the key, neither; and less finds room still.
func TestFullChangesNothing(t *testing.T) {
	for pages := 2; pages < 9; pages++ {
		s, d := fresh(t, pages)
		m := table{}
		fill(t, s, m)
		must(t, "how many", len(m), 2*pages) // 467 bytes each
		for k := range m {
			must(t, "Put of no more", s.Put(k, m[k]), api.OK)
		}
		must(t, "Commit", s.Commit(), api.OK)
		writes := d.Writes()
		must(t, "Put", s.Put(strings.Repeat("z", 64), strings.Repeat("z", 400)), api.ErrFull)
		must(t, "Put ahead of all", s.Put(strings.Repeat("!", 64), strings.Repeat("z", 400)), api.ErrFull)
		mustBe(t, s, m)
		must(t, "Commit", s.Commit(), api.OK)
		must(t, "writes", d.Writes(), writes)
		mustBe(t, again(t, d, pages), m)
		mustPut(t, s, "z", strings.Repeat("z", 85)) // 1023 - 2 * 467 are 89
		m["z"] = strings.Repeat("z", 85)
		must(t, "Put of a byte more", s.Put("z", strings.Repeat("z", 86)), api.ErrFull)
		mustBe(t, s, m)
		must(t, "Put of another one", s.Put("zz", strings.Repeat("z", 400)), api.ErrFull)
		for k := range m {
			must(t, "Drop", s.Drop(k), true)
			delete(m, k)
			break
		}
		mustBe(t, s, m)
	}
}

// 8.3: Commit and Abort, and a disk that is down amid them.
func TestCommitAndAbort(t *testing.T) {
	s, d := fresh(t, 3)
	s.Abort()
	mustBe(t, s, table{})
	mustPut(t, s, "a", "x")
	s.Abort()
	mustBe(t, s, table{}) // as at the opening
	mustPut(t, s, "a", "x")
	must(t, "Commit", s.Commit(), api.OK)
	mustPut(t, s, "b", "y")
	must(t, "Drop", s.Drop("a"), true)
	d.Fail(nil)
	must(t, "Commit of a disk that is down", s.Commit(), api.ErrDown)
	s.Abort()
	mustBe(t, s, table{"b": "y"}) // nothing was done
	mustPut(t, s, "c", "z")
	must(t, "Drop", s.Drop("b"), true)
	mustBe(t, s, table{"c": "z"})
	must(t, "Start", d.Start(), api.OK)
	mustBe(t, again(t, d, 3), table{"a": "x"})
	mustPut(t, s, "d", "w")
	must(t, "Commit", s.Commit(), api.OK)
	mustBe(t, again(t, d, 3), table{"c": "z", "d": "w"})
	must(t, "Drop", s.Drop("c"), true)
	s.Abort()
	mustBe(t, s, table{"c": "z", "d": "w"})
	s.Abort()
	mustBe(t, s, table{"c": "z", "d": "w"})
	must(t, "Commit", s.Commit(), api.OK)
	must(t, "waits", d.Waits(), 0)
	d.Fail(nil)
	must(t, "Commit of nothing, of a disk that is down", s.Commit(), api.ErrDown)
}

// 8.3: a Commit that changes nothing writes nothing; nor does one of what was changed and changed back.
func TestCommitOfNothing(t *testing.T) {
	s, d := fresh(t, 3)
	mustPut(t, s, "a", "x")
	must(t, "Commit", s.Commit(), api.OK)
	writes := d.Writes()
	must(t, "Commit", s.Commit(), api.OK)
	mustPut(t, s, "a", "y")
	mustPut(t, s, "b", "y")
	must(t, "Drop", s.Drop("b"), true)
	mustPut(t, s, "a", "x")
	must(t, "Commit", s.Commit(), api.OK)
	s.Abort()
	must(t, "writes", d.Writes(), writes)
	mustBe(t, s, table{"a": "x"})
}

// 8.3: behind a Commit that was broken off an Abort has what was good ahead of it, and another Commit does it all.
func TestAfterABrokenCommit(t *testing.T) {
	for fuse := 1; ; fuse++ {
		s, d := fresh(t, 4)
		old := table{"a": strings.Repeat("x", 400), "c": strings.Repeat("x", 400)}
		for k, v := range old {
			mustPut(t, s, k, v)
		}
		must(t, "Commit", s.Commit(), api.OK)
		next := table{"b": strings.Repeat("y", 400)}
		maps.Copy(next, old)
		mustPut(t, s, "b", next["b"])
		must(t, "Fuse", d.Fuse(fuse), api.OK)
		if s.Commit() == api.OK {
			must(t, "writes of a Commit", fuse, 19) // of two pages: 8 sectors, the mark, 8 sectors, the mark
			return
		}
		mustBe(t, s, next)
		d.Fail(slices.Repeat([]bool{fuse%2 == 1}, d.Waits()))
		must(t, "Start", d.Start(), api.OK)
		mustJournal(t, d, 4)
		s.Abort()
		mustBe(t, s, old)
		mustPut(t, s, "b", next["b"])
		must(t, "Commit", s.Commit(), api.OK)
		mustBe(t, again(t, d, 4), next)
	}
}

// 8.3: a nil Shelf.
func TestNil(t *testing.T) {
	var s *Shelf
	mustLack(t, s, "a")
	must(t, "Put", s.Put("a", "x"), api.ErrArg)
	must(t, "Drop", s.Drop("a"), false)
	mustRange(t, s, "", last, 9)
	must(t, "Len", s.Len(), 0)
	must(t, "Size", s.Size(), 0)
	must(t, "Commit", s.Commit(), api.ErrArg)
	s.Abort()
}

// 8.1, 8.5: leaves that just fit into one, to the byte, and those that just don't, are found again as they were left.
func TestLeavesToTheByte(t *testing.T) {
	for size := 200; size <= 230; size++ { // of the last entry, behind two of 404 bytes
		s, d := fresh(t, 3)
		m := table{"a": strings.Repeat("a", 400), "b": strings.Repeat("b", 400), "d": strings.Repeat("d", size-4)}
		mustPut(t, s, "c", strings.Repeat("c", 400))
		for k, v := range m {
			mustPut(t, s, k, v)
		}
		must(t, "leaves of all", len(s.leaves), 2)
		must(t, "Commit", s.Commit(), api.OK)
		must(t, "Drop", s.Drop("c"), true)
		mustBe(t, s, m)
		must(t, "leaves", len(s.leaves), fewest(m.pairs()))
		must(t, "Commit", s.Commit(), api.OK)
		mustBe(t, again(t, d, 3), m)
	}
}

// orders are ways in which keys may come: where the i-th of n stands.
var orders = map[string]func(i, n int) int{
	"rising":        func(i, n int) int { return i },
	"falling":       func(i, n int) int { return n - 1 - i },
	"from outside":  func(i, n int) int { return []int{i / 2, n - 1 - i/2}[i%2] },
	"by great hops": func(i, n int) int { return i * 7919 % n },
}

// 8.4: entries of a size each find room, up to the bound to the byte, in whatever order they come.
func TestRoom(t *testing.T) {
	for _, pages := range []int{2, 3, 4, 5, 6, 11, 128} {
		most := 510 * (pages - 2)
		for _, size := range []int{4, 7, 100, 127, 128, 170, 171, 255, 256, 257, 340, 341, 342, 343, 466, 467} {
			for order, at := range orders {
				s, d := fresh(t, pages)
				m := table{}
				n := min(most/size, 3000)
				if size == 4 {
					n = min(n, 256)
				}
				for i := range n {
					k, v := sized(at(i, n), size)
					if e := s.Put(k, v); e != api.OK {
						t.Fatalf("%d pages, a size of %d, %s: the entry %d: %v", pages, size, order, i, e)
					}
					m[k] = v
				}
				mustBe(t, s, m)
				must(t, "Commit", s.Commit(), api.OK)
				mustBe(t, again(t, d, pages), m)
			}
		}
	}
}

// sized is the i-th entry of a size.
func sized(i, size int) (string, string) {
	k := string([]byte{byte(i >> 8), byte(i)})
	if size == 4 {
		k = k[1:]
	}
	rest := size - 3 - len(k)
	v := min(rest, 400)
	return k + strings.Repeat("k", rest-v), strings.Repeat("v", v)
}

// 8.4: great and small entries in turn, which waste the most of pages, find room up to the bound.
func TestRoomOfGreatAndSmall(t *testing.T) {
	for pages := 3; pages < 20; pages++ {
		for seed := range int64(40) {
			r := rand.New(rand.NewSource(seed))
			s, _ := fresh(t, pages)
			m := table{}
			most := 510 * (pages - 2)
			great, small := 100+r.Intn(368), 5+r.Intn(95)
			for _, i := range r.Perm(600) {
				size := small
				if i%(2+int(seed%3)) == 0 {
					size = great
				}
				size = min(size, most-m.size())
				if size < 5 {
					break
				}
				k, v := sized(i, size)
				mustPut(t, s, k, v)
				m[k] = v
			}
			mustBe(t, s, m)
		}
	}
}

// 8.4: a table that is at the bound all the time, and changed there, has room all the time.
func TestRoomWhileChanged(t *testing.T) {
	for seed := range int64(30) {
		r := rand.New(rand.NewSource(seed))
		pages := 3 + r.Intn(8)
		s, d := fresh(t, pages)
		m := table{}
		for i := range 2000 {
			churn(t, r, s, m, 510*(pages-2))
			if r.Intn(4) == 0 {
				top(t, r, s, m, 510*(pages-2))
			}
			if i%50 == 0 {
				mustBe(t, s, m)
			}
			if i%300 == 0 {
				must(t, "Commit", s.Commit(), api.OK)
				s = again(t, d, pages)
			}
		}
	}
}

// top puts what makes the sizes of a table as great as they may be.
func top(t *testing.T, r *rand.Rand, s *Shelf, m table, most int) {
	t.Helper()
	k := fmt.Sprint("t", r.Intn(9))
	if _, there := m[k]; there {
		must(t, "Drop", s.Drop(k), true)
		delete(m, k)
	}
	if left := most - m.size() - 3 - len(k); left >= 0 {
		v := text(r, min(left, 400))
		mustPut(t, s, k, v)
		m[k] = v
	}
}

// 8.4: the greatest store takes as many small entries as it has room for, and tells them all.
func TestManyEntries(t *testing.T) {
	s, d := fresh(t, 128)
	m := table{}
	for i := 0; ; i++ {
		k := string([]byte{byte(i * 37), byte(i * 37 >> 8)})
		if e := s.Put(k, ""); e != api.OK {
			must(t, "Put", e, api.ErrFull)
			break
		}
		m[k] = ""
	}
	must(t, "Len", s.Len(), 128*(1023/5))
	mustBe(t, s, m)
	must(t, "Commit", s.Commit(), api.OK)
	mustBe(t, again(t, d, 128), m)
	for k := range m {
		must(t, "Drop", s.Drop(k), true)
	}
	mustBe(t, s, table{})
	must(t, "Commit", s.Commit(), api.OK)
	mustBe(t, again(t, d, 128), table{})
}

// scene is a table, and what is made of it by a Commit.
type scene struct {
	pages  int
	before func(s *Shelf)
	change func(s *Shelf)
}

// putMany puts entries of a size, from one on, by steps.
func putMany(s *Shelf, from, to, step, size int) {
	for i := from; i < to; i += step {
		k, v := sized(i, size)
		s.Put(k, v)
	}
}

// dropMany drops such entries.
func dropMany(s *Shelf, from, to, step, size int) {
	for i := from; i < to; i += step {
		k, _ := sized(i, size)
		s.Drop(k)
	}
}

// scenes change one page and many, also more leaves and fewer, and all leaves at once.
var scenes = map[string]scene{
	"the first entry":    {2, func(s *Shelf) {}, func(s *Shelf) { s.Put("a", "x") }},
	"one value":          {3, func(s *Shelf) { putMany(s, 0, 4, 1, 300) }, func(s *Shelf) { k, _ := sized(1, 300); s.Put(k, "other") }},
	"one entry less":     {3, func(s *Shelf) { putMany(s, 0, 2, 1, 300) }, func(s *Shelf) { dropMany(s, 0, 1, 1, 300) }},
	"none any more":      {4, func(s *Shelf) { putMany(s, 0, 8, 1, 300) }, func(s *Shelf) { dropMany(s, 0, 8, 1, 300) }},
	"a leaf that parts":  {4, func(s *Shelf) { putMany(s, 0, 3, 1, 300) }, func(s *Shelf) { putMany(s, 5, 6, 1, 300) }},
	"leaves that join":   {4, func(s *Shelf) { putMany(s, 0, 4, 1, 300) }, func(s *Shelf) { dropMany(s, 1, 3, 1, 300) }},
	"the first leaf":     {4, func(s *Shelf) { putMany(s, 0, 6, 1, 300) }, func(s *Shelf) { dropMany(s, 0, 3, 1, 300) }},
	"one amid many":      {9, func(s *Shelf) { putMany(s, 0, 16, 2, 467) }, func(s *Shelf) { putMany(s, 7, 8, 1, 467) }},
	"others everywhere":  {6, func(s *Shelf) { putMany(s, 0, 10, 2, 400) }, func(s *Shelf) { dropMany(s, 0, 10, 4, 400); putMany(s, 1, 8, 2, 250) }},
	"all leaves packed":  {4, func(s *Shelf) { putMany(s, 0, 12, 1, 340) }, func(s *Shelf) { dropMany(s, 3, 4, 1, 340); putMany(s, 0, 1, 1, 300); putMany(s, 20, 21, 1, 340) }},
	"a full store":       {3, func(s *Shelf) {}, func(s *Shelf) { putMany(s, 0, 200, 1, 15) }},
	"a store made empty": {3, func(s *Shelf) { putMany(s, 0, 200, 1, 15) }, func(s *Shelf) { dropMany(s, 0, 200, 1, 15) }},
}

// tableOf is what a shelf tells.
func tableOf(s *Shelf) table {
	m := table{}
	for _, p := range s.Range("", last, math.MaxInt) {
		m[p.Key] = p.Value
	}
	return m
}

// 8.5: behind a failure at any write of a Commit, whatever is picked, there are all of the changes, or none; all, if
// Commit told OK. So it is also if the power fails amid the recovery.
func TestFailures(t *testing.T) {
	for name, c := range scenes {
		t.Run(name, func(t *testing.T) {
			r := rand.New(rand.NewSource(1))
			s, d := fresh(t, c.pages)
			c.before(s)
			must(t, "Commit", s.Commit(), api.OK)
			old := tableOf(s)
			c.change(s)
			next := tableOf(s)
			if maps.Equal(old, next) {
				t.Fatal("nothing is changed")
			}
			seen := map[bool]int{}
			for fuse := 1; ; fuse++ {
				f := d.Clone()
				s := again(t, f, c.pages)
				c.change(s)
				must(t, "Fuse", f.Fuse(fuse), api.OK)
				if s.Commit() == api.OK {
					must(t, "Fuse", f.Fuse(0), api.OK)
					f.Fail(nil)
					must(t, "Start", f.Start(), api.OK)
					mustBe(t, again(t, f, c.pages), next)
					break
				}
				must(t, "Up", f.Up(), false)
				for _, picks := range choices(r, f.Waits()) {
					g := f.Clone()
					g.Fail(picks)
					must(t, "Start", g.Start(), api.OK)
					seen[mustBeEither(t, r, g, c.pages, old, next)]++
				}
			}
			if seen[false] == 0 || seen[true] == 0 {
				t.Fatalf("none of the changes %d times, all of them %d times", seen[false], seen[true])
			}
		})
	}
}

// choices are which writes of so many are picked: all choices of a few, some of many.
func choices(r *rand.Rand, n int) [][]bool {
	var l [][]bool
	if n <= 5 {
		for bits := range 1 << n {
			picks := make([]bool, n)
			for i := range picks {
				picks[i] = bits>>i&1 == 1
			}
			l = append(l, picks)
		}
		return l
	}
	l = append(l, nil, slices.Repeat([]bool{true}, n))
	for range 20 {
		picks := make([]bool, n)
		for i := range picks {
			picks[i] = r.Intn(2) == 0
		}
		l = append(l, picks)
	}
	return l
}

// mustBeEither has a store opened again, at times with the power failing amid that, and tells whether its table has all of the changes.
func mustBeEither(t *testing.T, r *rand.Rand, d *disk.Disk, pages int, old, next table) bool {
	t.Helper()
	if r.Intn(2) == 0 {
		must(t, "Fuse", d.Fuse(1+r.Intn(9)), api.OK)
		if _, e := journal.Open(d, pages); e == api.OK {
			must(t, "Fuse", d.Fuse(0), api.OK)
		} else {
			d.Fail(choices(r, d.Waits())[0])
			must(t, "Start", d.Start(), api.OK)
		}
	}
	s := again(t, d, pages)
	done := maps.Equal(tableOf(s), next)
	if done {
		mustBe(t, s, next)
	} else {
		mustBe(t, s, old)
	}
	return done
}
