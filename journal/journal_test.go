package journal

import (
	"math"
	"math/rand"
	"slices"
	"strings"
	"testing"

	"strongroom/api"
	"strongroom/disk"
)

// sector is a sector's bytes that are others for each n.
func sector(n int) string {
	b := []byte(strings.Repeat("s", 256))
	for i := range 4 {
		b[i] = byte(n >> (8 * i))
		b[255-i] = b[i]
	}
	return string(b)
}

// page is a page's bytes, of four sectors that are others for each n.
func page(n int) string {
	return sector(4*n) + sector(4*n+1) + sector(4*n+2) + sector(4*n+3)
}

var (
	blank   = string(make([]byte, 256))
	noughts = string(make([]byte, 1024))
)

// must holds an answer against the one that is asked for.
func must(t *testing.T, what string, got, want any) {
	t.Helper()
	if got != want {
		t.Fatalf("%s: %v, not %v", what, got, want)
	}
}

func mustDisk(t *testing.T, sectors int) *disk.Disk {
	t.Helper()
	d, e := disk.New(sectors)
	must(t, "disk.New", e, api.OK)
	return d
}

func mustOpen(t *testing.T, d *disk.Disk, pages int) *Journal {
	t.Helper()
	j, e := Open(d, pages)
	if j == nil || e != api.OK {
		t.Fatalf("Open(%d): %v, %v", pages, j, e)
	}
	return j
}

func mustRefuse(t *testing.T, d *disk.Disk, pages int, want api.Errno) {
	t.Helper()
	if j, e := Open(d, pages); j != nil || e != want {
		t.Fatalf("Open(%d): %v, %v, not %v", pages, j, e, want)
	}
}

func mustCommit(t *testing.T, j *Journal, l ...Change) {
	t.Helper()
	must(t, "Commit", j.Commit(l), api.OK)
}

func mustHave(t *testing.T, j *Journal, page int, want string) {
	t.Helper()
	if s, e := j.Read(page); s != want || e != api.OK {
		t.Fatalf("Read(%d): %.8q, %v, not %.8q", page, s, e, want)
	}
}

func mustWrite(t *testing.T, d *disk.Disk, at int, s string) {
	t.Helper()
	must(t, "Write", d.Write(at, s), api.OK)
}

// pagesOf is what a journal tells of all its pages.
func pagesOf(t *testing.T, j *Journal) []string {
	t.Helper()
	var l []string
	for i := range j.Pages() {
		s, e := j.Read(i)
		must(t, "Read", e, api.OK)
		l = append(l, s)
	}
	return l
}

// sectorsOf is what a disk has for good, and the writes that wait, if all of them are picked, or none.
func sectorsOf(d *disk.Disk, pick bool) string {
	d = d.Clone()
	d.Fail(slices.Repeat([]bool{pick}, d.Waits()))
	d.Start()
	var b strings.Builder
	for i := range d.Size() {
		s, _ := d.Read(i)
		b.WriteString(s)
	}
	return b.String()
}

// mustBeAlike holds two disks against each other: what they have, and every write that waits by itself.
func mustBeAlike(t *testing.T, what string, got, want *disk.Disk) {
	t.Helper()
	must(t, what+": Up", got.Up(), want.Up())
	must(t, what+": Writes", got.Writes(), want.Writes())
	must(t, what+": Waits", got.Waits(), want.Waits())
	for i := -1; i < want.Waits(); i++ { // -1: none is picked
		g, w := got.Clone(), want.Clone()
		picks := make([]bool, want.Waits())
		if i >= 0 {
			picks[i] = true
		}
		g.Fail(picks)
		w.Fail(picks)
		if sectorsOf(g, false) != sectorsOf(w, false) {
			t.Fatalf("%s: the sectors are others, if of the writes that wait the one at %d is picked", what, i)
		}
	}
}

// step is a write to a sector, or a flush (at is -1).
type step struct {
	at   int
	text string
}

var flush = step{at: -1}

// play does steps to a disk, till its power fails.
func play(d *disk.Disk, l []step) api.Errno {
	for _, s := range l {
		e := api.OK
		if s.at < 0 {
			e = d.Flush()
		} else {
			e = d.Write(s.at, s.text)
		}
		if e != api.OK {
			return e
		}
	}
	return api.OK
}

// four is the writes of a page's sectors, from one on.
func four(at int, text string) []step {
	return []step{{at, text[:256]}, {at + 1, text[256:512]}, {at + 2, text[512:768]}, {at + 3, text[768:]}}
}

// mark is the sector that tells pages, reckoned as a number whose bits are the pages.
func mark(pages ...int) string {
	bits := make([]bool, 2048)
	for _, i := range pages {
		bits[i] = true
	}
	b := make([]byte, 256)
	for i := range b {
		for k := 7; k >= 0; k-- {
			b[i] *= 2
			if bits[8*i+k] {
				b[i]++
			}
		}
	}
	return string(b)
}

// closing is the steps by which a store of n pages brings pages to where they are, and its mark back to noughts.
func closing(n int, pages []int, text func(int) string) []step {
	var l []step
	for _, i := range pages {
		l = append(l, four(1+4*(n+i), text(i))...)
	}
	return append(l, flush, step{0, blank}, flush)
}

// committing is all steps of a commit to a store of n pages.
func committing(n int, pages []int, text func(int) string) []step {
	var l []step
	for _, i := range pages {
		l = append(l, four(1+4*i, text(i))...)
	}
	l = append(l, flush, step{0, mark(pages...)}, flush)
	return append(l, closing(n, pages, text)...)
}

// changes are those that bring texts to pages.
func changes(pages []int, text func(int) string) []Change {
	var l []Change
	for _, i := range pages {
		l = append(l, Change{i, text(i)})
	}
	return l
}

func old(i int) string   { return page(1000 + i) }
func fresh(i int) string { return page(2000 + i) }

// filled is a disk with a store of n pages that have their old texts.
func filled(t *testing.T, n int) *disk.Disk {
	t.Helper()
	d := mustDisk(t, Need(n))
	for i := range n {
		must(t, "four", play(d, four(1+4*(n+i), old(i))), api.OK)
	}
	must(t, "Flush", d.Flush(), api.OK)
	return d
}

// restart has the power fail, and come back.
func restart(t *testing.T, d *disk.Disk, picks []bool) {
	t.Helper()
	d.Fail(picks)
	must(t, "Start", d.Start(), api.OK)
}

// Promise 7.1

func TestNeedIsEightSectorsForEachPageAndTheMark(t *testing.T) {
	for pages, want := range map[int]int{1: 9, 2: 17, 3: 25, 64: 513, 127: 1017, 128: 1025} {
		must(t, "Need", Need(pages), want)
	}
	for n := 2; n <= 128; n++ {
		must(t, "one page more", Need(n)-Need(n-1), 8)
	}
}

func TestNeedIsNoughtWhereThereIsNoStore(t *testing.T) {
	for _, n := range []int{0, -1, -128, 129, 256, 257, math.MaxInt, math.MinInt, math.MaxInt/8 + 2, math.MinInt / 8} {
		must(t, "Need", Need(n), 0)
	}
}

func TestANewStoresPagesAreNought(t *testing.T) {
	for _, n := range []int{1, 2, 9, 128} {
		d := mustDisk(t, Need(n))
		j := mustOpen(t, d, n)
		must(t, "Pages", j.Pages(), n)
		for i := range n {
			mustHave(t, j, i, noughts)
		}
		must(t, "Writes", d.Writes(), 0)
	}
}

func TestOpenRefusesWhatIsNoStore(t *testing.T) {
	d := mustDisk(t, 2048)
	for _, n := range []int{0, -1, 129, 255, math.MaxInt, math.MinInt} {
		mustRefuse(t, d, n, api.ErrArg)
		mustRefuse(t, nil, n, api.ErrArg)
	}
	mustRefuse(t, nil, 1, api.ErrArg)
	must(t, "Writes", d.Writes(), 0)
}

func TestOpenRefusesADiskThatIsTooSmall(t *testing.T) {
	for _, n := range []int{1, 2, 64, 128} {
		mustRefuse(t, mustDisk(t, 8*n), n, api.ErrArg)
		mustOpen(t, mustDisk(t, 8*n+1), n)
		mustOpen(t, mustDisk(t, 8*n+2), n)
	}
	mustRefuse(t, mustDisk(t, 1), 1, api.ErrArg)
}

func TestOpenRefusesADiskThatIsDown(t *testing.T) {
	d := mustDisk(t, 17)
	d.Fail(nil)
	mustRefuse(t, d, 2, api.ErrDown)
	mustRefuse(t, d, 1, api.ErrDown)
	mustRefuse(t, d, 3, api.ErrArg) // that it is too small is told ahead of that it is down
	mustRefuse(t, d, 0, api.ErrArg)
	mustRefuse(t, d, 129, api.ErrArg)
	must(t, "Up", d.Up(), false)
	must(t, "Start", d.Start(), api.OK)
	mustOpen(t, d, 2)
}

func TestOpenGoesOnWithTheDiskItself(t *testing.T) {
	d := mustDisk(t, 25)
	j, k := mustOpen(t, d, 3), mustOpen(t, d, 3)
	mustCommit(t, j, Change{1, page(1)})
	mustHave(t, k, 1, page(1))
	must(t, "Writes", d.Writes(), 10)
	must(t, "four", play(d, four(1+4*(3+2), page(7))), api.OK)
	mustHave(t, j, 2, page(7))
	mustHave(t, k, 2, page(7))
}

func TestOpenWritesNothingWhereTheMarkTellsNone(t *testing.T) {
	d := filled(t, 3)
	for i := range 12 { // copies that a commit left
		mustWrite(t, d, 1+i, sector(i))
	}
	must(t, "Flush", d.Flush(), api.OK)
	want := d.Clone()
	j := mustOpen(t, d, 3)
	mustBeAlike(t, "opened", d, want)
	for i := range 3 {
		mustHave(t, j, i, old(i))
	}
}

func TestOpenLooksForNoOtherPagesThanTheStoreHas(t *testing.T) {
	for _, s := range []string{mark(3), mark(4, 9, 127), mark(128), mark(128, 255, 2047), mark(8*16, 8*16+1, 8*16+2)} {
		d := filled(t, 3)
		mustWrite(t, d, 0, s)
		must(t, "Flush", d.Flush(), api.OK)
		want := d.Clone()
		mustOpen(t, d, 3)
		mustBeAlike(t, "no page of the store's is told", d, want)
	}
	d := filled(t, 3)
	mustWrite(t, d, 0, mark(1, 3, 64, 127, 128, 2000))
	must(t, "four", play(d, four(5, page(5))), api.OK)
	must(t, "Flush", d.Flush(), api.OK)
	want := d.Clone()
	mustOpen(t, d, 3)
	must(t, "play", play(want, closing(3, []int{1}, func(int) string { return page(5) })), api.OK)
	mustBeAlike(t, "one page of the store's is told", d, want)
}

func TestOpenBringsEachToldPageFromItsCopy(t *testing.T) {
	for bits := range 32 {
		var pages []int
		for i := range 5 {
			if bits>>i&1 == 1 {
				pages = append(pages, i)
			}
		}
		d := filled(t, 5)
		for i := range 5 {
			must(t, "four", play(d, four(1+4*i, fresh(i))), api.OK)
		}
		mustWrite(t, d, 0, mark(pages...))
		must(t, "Flush", d.Flush(), api.OK)
		want := d.Clone()
		j := mustOpen(t, d, 5)
		if len(pages) > 0 {
			must(t, "play", play(want, closing(5, pages, fresh)), api.OK)
		}
		mustBeAlike(t, "opened", d, want)
		for i := range 5 {
			if slices.Contains(pages, i) {
				mustHave(t, j, i, fresh(i))
			} else {
				mustHave(t, j, i, old(i))
			}
		}
	}
}

func TestOpenReadsEveryBitOfTheMark(t *testing.T) {
	for i := range 128 {
		d := mustDisk(t, Need(128))
		must(t, "four", play(d, four(1+4*i, page(i+1))), api.OK)
		s := []byte(blank)
		s[i/8] = []byte{1, 2, 4, 8, 16, 32, 64, 128}[i%8]
		mustWrite(t, d, 0, string(s))
		must(t, "Flush", d.Flush(), api.OK)
		j := mustOpen(t, d, 128)
		for k := range 128 {
			if k == i {
				mustHave(t, j, k, page(i+1))
			} else {
				mustHave(t, j, k, noughts)
			}
		}
		if s, _ := d.Read(0); s != blank {
			t.Fatalf("the page %d is told still", i)
		}
	}
}

func TestOpenIsBrokenOffAtAnyWrite(t *testing.T) {
	pages := []int{0, 2, 3}
	first := filled(t, 4)
	for _, i := range pages {
		must(t, "four", play(first, four(1+4*i, fresh(i))), api.OK)
	}
	mustWrite(t, first, 0, mark(pages...))
	must(t, "Flush", first.Flush(), api.OK)
	for fuse := 1; fuse <= 13; fuse++ {
		d := first.Clone()
		must(t, "Fuse", d.Fuse(fuse), api.OK)
		want := d.Clone()
		mustRefuse(t, d, 4, api.ErrDown)
		must(t, "play", play(want, closing(4, pages, fresh)), api.ErrDown)
		mustBeAlike(t, "broken off", d, want)
	}
	d := first.Clone()
	must(t, "Fuse", d.Fuse(14), api.OK)
	j := mustOpen(t, d, 4)
	must(t, "Writes", d.Writes()-first.Writes(), 13)
	must(t, "Commit", j.Commit([]Change{{0, page(0)}}), api.ErrDown) // the fuse's last write
	must(t, "Writes", d.Writes()-first.Writes(), 14)
}

// Promise 7.2

func TestReadTellsAPage(t *testing.T) {
	d := filled(t, 128)
	j := mustOpen(t, d, 128)
	for i := range 128 {
		mustHave(t, j, i, old(i))
	}
	must(t, "Waits", d.Waits(), 0)
}

func TestReadRefuses(t *testing.T) {
	d := filled(t, 3)
	j := mustOpen(t, d, 3)
	for _, i := range []int{-1, 3, 4, 128, math.MaxInt, math.MinInt, math.MaxInt / 4, math.MinInt / 4} {
		if s, e := j.Read(i); s != "" || e != api.ErrRange {
			t.Fatalf("Read(%d): %.8q, %v", i, s, e)
		}
	}
	d.Fail(nil)
	for i := range 3 {
		if s, e := j.Read(i); s != "" || e != api.ErrDown {
			t.Fatalf("Read(%d) of a disk that is down: %.8q, %v", i, s, e)
		}
	}
	for _, i := range []int{-1, 3} {
		if s, e := j.Read(i); s != "" || e != api.ErrRange {
			t.Fatalf("Read(%d) of a disk that is down: %.8q, %v", i, s, e)
		}
	}
	must(t, "Pages", j.Pages(), 3)
	must(t, "Start", d.Start(), api.OK)
	mustHave(t, j, 2, old(2))
}

func TestCommitChangesThesePagesAlone(t *testing.T) {
	d := filled(t, 5)
	j := mustOpen(t, d, 5)
	mustCommit(t, j, Change{3, page(3)}, Change{0, page(4)}, Change{4, page(3)})
	for i, want := range []string{page(4), old(1), old(2), page(3), page(3)} {
		mustHave(t, j, i, want)
	}
	must(t, "Waits", d.Waits(), 0)
	must(t, "Writes", d.Writes(), 4*5+26)
}

func TestCommitWritesInTheOrderThatTheChapterSays(t *testing.T) {
	for _, at := range []struct {
		pages  int
		sorted []int
	}{
		{1, []int{0}},
		{2, []int{1}},
		{4, []int{0, 1, 2, 3}},
		{9, []int{7, 8}},
		{20, []int{0, 3, 11, 19}},
		{128, []int{0, 7, 8, 64, 127}},
	} {
		first := filled(t, at.pages)
		steps := committing(at.pages, at.sorted, fresh)
		count := 8*len(at.sorted) + 2
		for fuse := 0; fuse <= count+1; fuse++ { // 0: no fuse
			d := first.Clone()
			j := mustOpen(t, d, at.pages)
			must(t, "Fuse", d.Fuse(fuse), api.OK)
			want := d.Clone()
			l := changes(at.sorted, fresh)
			slices.Reverse(l) // the order of the pages holds, not that of the changes
			e := j.Commit(l)
			must(t, "Commit", e, play(want, steps))
			must(t, "whether the power failed", e == api.ErrDown, fuse > 0 && fuse <= count)
			mustBeAlike(t, "committed", d, want)
		}
	}
}

func TestCommitWritesWhatIsThereAlready(t *testing.T) {
	d := filled(t, 2)
	j := mustOpen(t, d, 2)
	before := d.Writes()
	mustCommit(t, j, Change{0, old(0)})
	must(t, "Writes", d.Writes()-before, 10)
	mustCommit(t, j, Change{0, old(0)})
	must(t, "Writes", d.Writes()-before, 20)
	mustHave(t, j, 0, old(0))
}

func TestCommitChangesAllPagesAtOnce(t *testing.T) {
	d := mustDisk(t, 2048)
	j := mustOpen(t, d, 128)
	var l []Change
	for i := range 128 {
		l = append(l, Change{127 - i, page(127 - i)})
	}
	mustCommit(t, j, l...)
	for i := range 128 {
		mustHave(t, j, i, page(i))
	}
	for i := 1025; i < 2048; i++ {
		if s, _ := d.Read(i); s != blank {
			t.Fatalf("the sector %d is none of the store's", i)
		}
	}
}

func TestCommitOfNothingWritesNothing(t *testing.T) {
	d := filled(t, 2)
	j := mustOpen(t, d, 2)
	mustWrite(t, d, 3, sector(1))
	want := d.Clone()
	must(t, "nil", j.Commit(nil), api.OK)
	must(t, "empty", j.Commit([]Change{}), api.OK)
	mustBeAlike(t, "nothing", d, want)
	d.Fail(nil)
	must(t, "nil, when it is down", j.Commit(nil), api.ErrDown)
	must(t, "empty, when it is down", j.Commit([]Change{}), api.ErrDown)
}

func TestCommitRefuses(t *testing.T) {
	good := page(1)
	for _, at := range []struct {
		what string
		l    []Change
		want api.Errno
	}{
		{"below", []Change{{-1, good}}, api.ErrRange},
		{"behind", []Change{{3, good}}, api.ErrRange},
		{"far below", []Change{{math.MinInt, good}}, api.ErrRange},
		{"far behind", []Change{{math.MaxInt, good}}, api.ErrRange},
		{"a page of another store's", []Change{{127, good}}, api.ErrRange},
		{"the last one", []Change{{0, good}, {1, good}, {2, good}, {3, good}}, api.ErrRange},
		{"range ahead of twice", []Change{{0, good}, {0, good}, {3, good}}, api.ErrRange},
		{"range ahead of the bytes", []Change{{0, ""}, {-1, good}}, api.ErrRange},
		{"range ahead of all", []Change{{0, ""}, {0, ""}, {3, ""}}, api.ErrRange},
		{"twice out of range", []Change{{3, good}, {3, good}}, api.ErrRange},
		{"twice", []Change{{0, good}, {0, good}}, api.ErrTwice},
		{"twice, other bytes", []Change{{2, good}, {2, page(2)}}, api.ErrTwice},
		{"twice, apart", []Change{{2, good}, {0, good}, {1, good}, {2, good}}, api.ErrTwice},
		{"thrice", []Change{{1, good}, {1, good}, {1, good}}, api.ErrTwice},
		{"twice ahead of the bytes", []Change{{1, ""}, {0, good}, {0, good}}, api.ErrTwice},
		{"no bytes", []Change{{0, ""}}, api.ErrArg},
		{"too few", []Change{{0, good[1:]}}, api.ErrArg},
		{"too many", []Change{{0, good + "x"}}, api.ErrArg},
		{"a sector", []Change{{0, good[:256]}}, api.ErrArg},
		{"two pages", []Change{{0, good + good}}, api.ErrArg},
		{"the last one's bytes", []Change{{0, good}, {2, good}, {1, "x"}}, api.ErrArg},
	} {
		d := filled(t, 3)
		j := mustOpen(t, d, 3)
		want := d.Clone()
		given := slices.Clone(at.l)
		must(t, at.what, j.Commit(at.l), at.want)
		mustBeAlike(t, at.what, d, want)
		must(t, at.what+": the changes", slices.Equal(at.l, given), true)
		d.Fail(nil)
		must(t, at.what+", when it is down", j.Commit(at.l), at.want)
		must(t, "Start", d.Start(), api.OK)
		mustBeAlike(t, at.what+", when it was down", d, want)
	}
}

func TestCommitToADiskThatIsDown(t *testing.T) {
	d := filled(t, 2)
	j := mustOpen(t, d, 2)
	d.Fail(nil)
	want := d.Clone()
	must(t, "Commit", j.Commit([]Change{{0, page(1)}}), api.ErrDown)
	mustBeAlike(t, "refused", d, want)
}

func TestCommitLeavesTheChangesAsTheyAre(t *testing.T) {
	j := mustOpen(t, mustDisk(t, Need(4)), 4)
	l := []Change{{3, page(3)}, {1, page(1)}, {2, page(2)}}
	given := slices.Clone(l)
	mustCommit(t, j, l...)
	must(t, "the changes", slices.Equal(l, given), true)
	must(t, "Commit", j.Commit(l), api.OK)
	must(t, "the changes", slices.Equal(l, given), true)
	l[0] = Change{0, page(9)}
	mustHave(t, j, 3, page(3))
	mustHave(t, j, 0, noughts)
}

func TestANilJournal(t *testing.T) {
	var j *Journal
	must(t, "Pages", j.Pages(), 0)
	for _, i := range []int{-1, 0, 1} {
		s, e := j.Read(i)
		must(t, "Read", s, "")
		must(t, "Read", e, api.ErrArg)
	}
	for _, l := range [][]Change{nil, {}, {{0, page(0)}}, {{-1, ""}}, {{0, ""}, {0, ""}}} {
		must(t, "Commit", j.Commit(l), api.ErrArg)
	}
}

// Promise 7.3

// allOrNone tells whether pages have all of the new texts (1), or all of the old ones (0); any other is told as a fault.
func allOrNone(t *testing.T, j *Journal, changed []int) int {
	t.Helper()
	got := pagesOf(t, j)
	for done := range 2 {
		want := make([]string, len(got))
		for i := range want {
			want[i] = old(i)
			if done == 1 && slices.Contains(changed, i) {
				want[i] = fresh(i)
			}
		}
		if slices.Equal(got, want) {
			return done
		}
	}
	t.Fatal("some pages are as they were, others are changed")
	return 0
}

// picksOf calls back with every choice among up to 8 writes, else with some of them.
func picksOf(r *rand.Rand, waits int, back func([]bool)) {
	count := 40
	if waits <= 8 {
		count = 1 << waits
	}
	for n := range count {
		l := make([]bool, waits)
		for i := range l {
			switch {
			case waits <= 8:
				l[i] = n>>i&1 == 1
			case n == 0: // none
			case n == 1:
				l[i] = true
			default:
				l[i] = r.Intn(2) == 1
			}
		}
		back(l)
	}
}

func TestBehindAFailureAllChangesAreDoneOrNone(t *testing.T) {
	r := rand.New(rand.NewSource(7))
	for _, changed := range [][]int{{0}, {1, 2}, {0, 2, 3}} {
		first := filled(t, 4)
		count := 8*len(changed) + 2
		seen := [2]int{}
		for fuse := 1; fuse <= count; fuse++ {
			d := first.Clone()
			j := mustOpen(t, d, 4)
			must(t, "Fuse", d.Fuse(fuse), api.OK)
			must(t, "Commit", j.Commit(changes(changed, fresh)), api.ErrDown)
			picksOf(r, d.Waits(), func(picks []bool) {
				c := d.Clone()
				restart(t, c, picks)
				done := allOrNone(t, mustOpen(t, c, 4), changed)
				seen[done]++
				restart(t, c, nil)
				must(t, "once more", allOrNone(t, mustOpen(t, c, 4), changed), done)
				if fuse <= 4*len(changed) { // the mark isn't written yet
					must(t, "done", done, 0)
				}
				if fuse > 4*len(changed)+1 { // it is flushed
					must(t, "done", done, 1)
				}
			})
		}
		if seen[0] == 0 || seen[1] == 0 {
			t.Fatal("one of both never came:", seen)
		}
	}
}

func TestWhatWasCommittedStays(t *testing.T) {
	first := filled(t, 4)
	changed := []int{0, 3}
	mustCommit(t, mustOpen(t, first, 4), changes(changed, fresh)...)
	must(t, "Waits", first.Waits(), 0)
	for _, picks := range [][]bool{nil, {true, true, true}} {
		d := first.Clone()
		restart(t, d, picks)
		writes := d.Writes()
		must(t, "done", allOrNone(t, mustOpen(t, d, 4), changed), 1)
		must(t, "Writes", d.Writes(), writes)
	}
}

func TestOpeningThatIsBrokenOffMayBeBegunAgain(t *testing.T) {
	r := rand.New(rand.NewSource(8))
	changed := []int{1, 3}
	first := filled(t, 4)
	j := mustOpen(t, first, 4)
	must(t, "Fuse", first.Fuse(8+1+3), api.OK) // the mark is flushed, the page 1 is there but for its last sector
	must(t, "Commit", j.Commit(changes(changed, fresh)), api.ErrDown)
	for range 300 {
		d := first.Clone()
		for {
			picks := make([]bool, d.Waits())
			for i := range picks {
				picks[i] = r.Intn(2) == 1
			}
			restart(t, d, picks)
			must(t, "Fuse", d.Fuse(1+r.Intn(12)), api.OK)
			k, e := Open(d, 4)
			if e == api.OK {
				must(t, "done", allOrNone(t, k, changed), 1)
				break
			}
			must(t, "Open", e, api.ErrDown)
			must(t, "no journal", k == nil, true)
		}
	}
}

func TestManyCommitsAndFailures(t *testing.T) {
	r := rand.New(rand.NewSource(9))
	for range 40 {
		n := 1 + r.Intn(12)
		d := mustDisk(t, Need(n)+r.Intn(3))
		j := mustOpen(t, d, n)
		have := slices.Repeat([]string{noughts}, n)
		for step := range 60 {
			next := slices.Clone(have)
			var l []Change
			for _, i := range r.Perm(n)[:r.Intn(n+1)] {
				next[i] = page(100*step + i)
				l = append(l, Change{i, next[i]})
			}
			if r.Intn(2) == 0 {
				must(t, "Fuse", d.Fuse(1+r.Intn(8*n+4)), api.OK)
			}
			e := j.Commit(l)
			if e == api.OK {
				have = next
			}
			if d.Up() {
				must(t, "Commit", e, api.OK)
				must(t, "the pages", slices.Equal(pagesOf(t, j), have), true)
				continue
			}
			for j = nil; j == nil; {
				picks := make([]bool, r.Intn(d.Waits()+2))
				for i := range picks {
					picks[i] = r.Intn(2) == 1
				}
				restart(t, d, picks)
				if r.Intn(2) == 0 {
					must(t, "Fuse", d.Fuse(1+r.Intn(8)), api.OK)
				}
				j, _ = Open(d, n)
			}
			must(t, "Fuse", d.Fuse(0), api.OK)
			if got := pagesOf(t, j); slices.Equal(got, next) {
				have = next
			} else if !slices.Equal(got, have) {
				t.Fatal("neither all changes nor none")
			}
		}
	}
}
