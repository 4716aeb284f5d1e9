package pager

import (
	"encoding/binary"
	"fmt"
	"math"
	"math/rand"
	"slices"
	"strings"
	"testing"

	"strongroom/api"
	"strongroom/disk"
	"strongroom/journal"
)

var blank = string(make([]byte, 1024))

// page is a page's bytes that are others for each n.
func page(n int) string {
	return strings.Repeat(fmt.Sprintf("%016d", n), 64)
}

// must holds an answer against the one that is asked for.
func must(t *testing.T, what string, got, want any) {
	t.Helper()
	if got != want {
		t.Fatalf("%s: %.80s, not %.80s", what, fmt.Sprint(got), fmt.Sprint(want))
	}
}

func mustDisk(t *testing.T, pages int) *disk.Disk {
	t.Helper()
	d, e := disk.New(journal.Need(pages))
	must(t, "disk.New", e, api.OK)
	return d
}

func mustJournal(t *testing.T, d *disk.Disk, pages int) *journal.Journal {
	t.Helper()
	j, e := journal.Open(d, pages)
	must(t, "journal.Open", e, api.OK)
	return j
}

// mustHold has pages of a journal changed beside a pager.
func mustHold(t *testing.T, j *journal.Journal, l ...journal.Change) {
	t.Helper()
	must(t, "journal.Commit", j.Commit(l), api.OK)
}

func mustOpen(t *testing.T, j *journal.Journal) *Pager {
	t.Helper()
	p, e := Open(j)
	if p == nil || e != api.OK {
		t.Fatalf("Open: %v, %v", p, e)
	}
	return p
}

func mustRefuse(t *testing.T, j *journal.Journal, want api.Errno) {
	t.Helper()
	if p, e := Open(j); p != nil || e != want {
		t.Fatalf("Open: %v, %v, not %v", p, e, want)
	}
}

// fresh is a new pager, and the disk below it.
func fresh(t *testing.T, pages int) (*Pager, *disk.Disk) {
	t.Helper()
	d := mustDisk(t, pages)
	return mustOpen(t, mustJournal(t, d, pages)), d
}

// again is the pager that is found when the journal is opened again.
func again(t *testing.T, d *disk.Disk, pages int) *Pager {
	t.Helper()
	return mustOpen(t, mustJournal(t, d, pages))
}

// restart has the power fail, and come back, with those writes there that are picked.
func restart(t *testing.T, d *disk.Disk, picks []bool) {
	t.Helper()
	d.Fail(picks)
	must(t, "Start", d.Start(), api.OK)
}

func mustAlloc(t *testing.T, p *Pager, want int) {
	t.Helper()
	if id, e := p.Alloc(); id != want || e != api.OK {
		t.Fatalf("Alloc: %d, %v, not %d", id, e, want)
	}
}

// mustAllocAll has the pages from 1 to a last one used.
func mustAllocAll(t *testing.T, p *Pager, last int) {
	t.Helper()
	for id := 1; id <= last; id++ {
		mustAlloc(t, p, id)
	}
}

func mustRead(t *testing.T, p *Pager, id int, want string) {
	t.Helper()
	if s, e := p.Read(id); s != want || e != api.OK {
		t.Fatalf("Read(%d): %.20q, %v, not %.20q", id, s, e, want)
	}
}

func mustNotRead(t *testing.T, p *Pager, id int, want api.Errno) {
	t.Helper()
	if s, e := p.Read(id); s != "" || e != want {
		t.Fatalf("Read(%d): %.20q, %v, not %v", id, s, e, want)
	}
}

func mustWrite(t *testing.T, p *Pager, id int, s string) {
	t.Helper()
	must(t, fmt.Sprintf("Write(%d)", id), p.Write(id, s), api.OK)
}

func mustGive(t *testing.T, p *Pager, id int) {
	t.Helper()
	must(t, fmt.Sprintf("Give(%d)", id), p.Give(id), api.OK)
}

func mustPoint(t *testing.T, p *Pager, k, id int) {
	t.Helper()
	must(t, fmt.Sprintf("Point(%d, %d)", k, id), p.Point(k, id), api.OK)
}

func mustSave(t *testing.T, p *Pager, want int) {
	t.Helper()
	if n, e := p.Save(); n != want || e != api.OK {
		t.Fatalf("Save: %d, %v, not %d", n, e, want)
	}
}

func mustBack(t *testing.T, p *Pager, n int) {
	t.Helper()
	must(t, fmt.Sprintf("Back(%d)", n), p.Back(n), api.OK)
}

func mustCommit(t *testing.T, p *Pager) {
	t.Helper()
	must(t, "Commit", p.Commit(), api.OK)
}

func mustChange(t *testing.T, p *Pager, want ...int) {
	t.Helper()
	if l := p.Changed(); !slices.Equal(l, want) {
		t.Fatalf("Changed: %v, not %v", l, want)
	}
}

// mustHaveRoots holds all four roots against others.
func mustHaveRoots(t *testing.T, p *Pager, want ...int) {
	t.Helper()
	for k, id := range want {
		must(t, fmt.Sprintf("Root(%d)", k), p.Root(k), id)
	}
}

// headOf is a head's bytes, laid by the words of the chapter.
func headOf(serial uint64, roots [4]uint16, used ...int) string {
	b := []byte("strongroom")
	b = binary.BigEndian.AppendUint64(b, serial)
	for _, id := range roots {
		b = binary.BigEndian.AppendUint16(b, id)
	}
	b = append(b, make([]byte, 1024-len(b))...)
	for _, id := range used {
		b[26+id/8] |= 1 << (id % 8)
	}
	return string(b)
}

// with is a text in which a byte is another one.
func with(text string, at int, b byte) string {
	return text[:at] + string([]byte{b}) + text[at+1:]
}

// mustHead holds the bytes of the page 0, as the journal has it, against those of a head.
func mustHead(t *testing.T, j *journal.Journal, want string) {
	t.Helper()
	if s, e := j.Read(0); s != want || e != api.OK {
		t.Fatalf("the head: %q, %v, not %q", s[:50], e, want[:50])
	}
}

// 14.1: what is refused, and in which order.
func TestOpenRefuses(t *testing.T) {
	mustRefuse(t, nil, api.ErrArg)
	mustRefuse(t, &journal.Journal{}, api.ErrArg)
	d := mustDisk(t, 2)
	one, two := mustJournal(t, d, 1), mustJournal(t, d, 2)
	mustRefuse(t, one, api.ErrArg)
	mustOpen(t, two)
	d.Fail(nil)
	mustRefuse(t, nil, api.ErrArg)
	mustRefuse(t, one, api.ErrArg)
	mustRefuse(t, two, api.ErrDown)
	must(t, "Start", d.Start(), api.OK)
	mustOpen(t, two)
	mustHold(t, two, journal.Change{Page: 0, Data: page(1)})
	mustRefuse(t, two, api.ErrForm)
	d.Fail(nil)
	mustRefuse(t, two, api.ErrDown)
}

// 14.1: a head of noughts, of all sizes, and what opening leaves alone.
func TestOpenNew(t *testing.T) {
	for pages := 2; pages <= 128; pages++ {
		p, d := fresh(t, pages)
		must(t, "Pages", p.Pages(), pages)
		must(t, "Free", p.Free(), pages-1)
		must(t, "Serial", p.Serial(), uint64(0))
		must(t, "Used(0)", p.Used(0), true)
		for id := 1; id < pages; id++ {
			must(t, fmt.Sprint("Used ", id), p.Used(id), false)
			mustNotRead(t, p, id, api.ErrNone)
		}
		for _, id := range []int{math.MinInt, -128, -8, -1, pages, pages + 1, 128, 129, 256, 65536, math.MaxInt} {
			must(t, fmt.Sprint("Used ", id), p.Used(id), false)
		}
		mustHaveRoots(t, p, 0, 0, 0, 0)
		mustChange(t, p)
		must(t, "writes", d.Writes(), 0)
	}
}

// 14.1: right heads are read as the chapter has them.
func TestOpenRightHeads(t *testing.T) {
	for _, c := range []struct {
		pages  int
		serial uint64
		roots  [4]uint16
		used   []int
	}{
		{2, 0, [4]uint16{}, []int{0}},
		{2, 1, [4]uint16{1, 1, 1, 1}, []int{0, 1}},
		{2, 1<<63 - 1, [4]uint16{0, 0, 0, 1}, []int{0, 1}},
		{9, 0x0102030405060708, [4]uint16{0, 8, 0, 7}, []int{0, 7, 8}},
		{17, 1 << 62, [4]uint16{16, 0, 1, 16}, []int{0, 1, 3, 5, 15, 16}},
		{128, 77, [4]uint16{127, 126, 64, 8}, []int{0, 8, 63, 64, 120, 126, 127}},
		{128, 1, [4]uint16{}, []int{0, 127}},
	} {
		j := mustJournal(t, mustDisk(t, c.pages), c.pages)
		text := headOf(c.serial, c.roots, c.used...)
		l := []journal.Change{{Page: 0, Data: text}}
		for id := 1; id < c.pages; id++ {
			l = append(l, journal.Change{Page: id, Data: page(id)})
		}
		mustHold(t, j, l...)
		p := mustOpen(t, j)
		must(t, "Pages", p.Pages(), c.pages)
		must(t, "Free", p.Free(), c.pages-len(c.used))
		must(t, "Serial", p.Serial(), c.serial)
		for id := range c.pages {
			must(t, fmt.Sprint("Used ", id), p.Used(id), slices.Contains(c.used, id))
			if p.Used(id) && id > 0 {
				mustRead(t, p, id, page(id))
			}
		}
		for k, id := range c.roots {
			must(t, fmt.Sprint("Root ", k), p.Root(k), int(id))
		}
		mustChange(t, p)
		mustCommit(t, p)
		mustHead(t, j, text)
	}
}

// 14.1: heads that aren't right, each for one cause alone.
func TestOpenWrongHeads(t *testing.T) {
	refuse := func(what string, pages int, text string) {
		t.Helper()
		j := mustJournal(t, mustDisk(t, pages), pages)
		mustHold(t, j, journal.Change{Page: 0, Data: text})
		if p, e := Open(j); p != nil || e != api.ErrForm {
			t.Fatalf("%s: %v, %v", what, p, e)
		}
	}
	right := headOf(5, [4]uint16{1, 0, 2, 0}, 0, 1, 2)
	for at := range 10 {
		refuse(fmt.Sprint("the name's byte ", at), 3, with(right, at, right[at]^0x20))
		refuse(fmt.Sprint("no name's byte ", at), 3, with(right, at, 0))
	}
	for at := 42; at < 1024; at++ {
		refuse(fmt.Sprint("the byte ", at), 3, with(right, at, 1))
		refuse(fmt.Sprint("nothing but the byte ", at), 128, with(blank, at, 1))
	}
	for at := range 42 {
		refuse(fmt.Sprint("noughts but the byte ", at), 128, with(blank, at, 1))
	}
	refuse("no page 0", 3, headOf(5, [4]uint16{1, 0, 2, 0}, 1, 2))
	refuse("no page 0, and no root of 0", 3, headOf(5, [4]uint16{1, 1, 2, 2}, 1, 2))
	refuse("the name alone", 3, headOf(0, [4]uint16{}))
	refuse("a serial of 2^63", 3, headOf(1<<63, [4]uint16{1, 0, 2, 0}, 0, 1, 2))
	refuse("a serial of 2^64 - 1", 3, headOf(math.MaxUint64, [4]uint16{1, 0, 2, 0}, 0, 1, 2))
	for k := range 4 {
		for _, id := range []uint16{1, 4, 5, 127, 128, 255, 256, 258, 0x0200, 0x8002, 65535} {
			roots := [4]uint16{}
			roots[k] = id
			refuse(fmt.Sprint("the root ", k, " is ", id), 5, headOf(5, roots, 0, 2, 3))
		}
	}
	for id := 3; id < 128; id++ {
		refuse(fmt.Sprint("the page ", id), 3, headOf(5, [4]uint16{}, 0, 1, id))
		refuse(fmt.Sprint("the page ", id), id, headOf(5, [4]uint16{uint16(id)}, 0, id))
	}
}

// 14.1: a head has just the chapter's bytes.
func TestHeadBytes(t *testing.T) {
	d := mustDisk(t, 20)
	j := mustJournal(t, d, 20)
	p := mustOpen(t, j)
	mustAllocAll(t, p, 18)
	mustGive(t, p, 9)
	mustPoint(t, p, 0, 18)
	mustPoint(t, p, 2, 1)
	mustHead(t, j, blank)
	mustCommit(t, p)
	mustHead(t, j, headOf(1, [4]uint16{18, 0, 1, 0}, 0, 1, 2, 3, 4, 5, 6, 7, 8, 10, 11, 12, 13, 14, 15, 16, 17, 18))
	for id := 2; id < 18; id++ {
		if id != 9 {
			mustGive(t, p, id)
		}
	}
	mustPoint(t, p, 0, 0)
	mustPoint(t, p, 3, 18)
	mustCommit(t, p)
	mustHead(t, j, headOf(2, [4]uint16{0, 0, 1, 18}, 0, 1, 18))
	for serial := uint64(3); serial < 600; serial++ {
		mustWrite(t, p, 1, page(int(serial)))
		mustCommit(t, p)
		must(t, "Serial", p.Serial(), serial)
		mustHead(t, j, headOf(serial, [4]uint16{0, 0, 1, 18}, 0, 1, 18))
	}
}

// 14.1: the journal isn't kept apart: what stands there is what is read.
func TestTheJournalItself(t *testing.T) {
	j := mustJournal(t, mustDisk(t, 3), 3)
	p := mustOpen(t, j)
	mustAllocAll(t, p, 2)
	mustWrite(t, p, 1, page(1))
	mustCommit(t, p)
	mustHold(t, j, journal.Change{Page: 1, Data: page(5)})
	mustRead(t, p, 1, page(5))
	mustChange(t, p)
	mustWrite(t, p, 1, page(5))
	mustChange(t, p)
	mustWrite(t, p, 1, page(1))
	mustChange(t, p, 0, 1)
	mustCommit(t, p)
	s, e := j.Read(1)
	must(t, "Read", e, api.OK)
	must(t, "Read", s, page(1))
}

// 14.1: so it is also behind a Commit that was broken off, when another one was good.
func TestTheJournalItselfBehindAFailure(t *testing.T) {
	d := mustDisk(t, 3)
	j := mustJournal(t, d, 3)
	p := mustOpen(t, j)
	mustAllocAll(t, p, 2)
	mustWrite(t, p, 1, page(1))
	must(t, "Fuse", d.Fuse(3), api.OK)
	must(t, "Commit", p.Commit(), api.ErrDown)
	restart(t, d, nil)
	mustCommit(t, p)
	mustHold(t, j, journal.Change{Page: 1, Data: page(5)})
	mustRead(t, p, 1, page(5))
	mustChange(t, p)
}

// 14.2: which pages are refused, ahead of all else.
func TestPagesRefused(t *testing.T) {
	for _, pages := range []int{2, 3, 9, 128} {
		p, d := fresh(t, pages)
		mustAlloc(t, p, 1)
		mustCommit(t, p)
		for _, down := range []bool{false, true} {
			if down {
				d.Fail(nil)
			}
			for _, id := range []int{math.MinInt, -129, -1, 0, pages, pages + 1, 128, 129, 65537, math.MaxInt} {
				mustNotRead(t, p, id, api.ErrRange)
				must(t, "Write", p.Write(id, page(1)), api.ErrRange)
				must(t, "Write of nothing", p.Write(id, ""), api.ErrRange)
				must(t, "Give", p.Give(id), api.ErrRange)
				if id != 0 {
					must(t, "Point", p.Point(1, id), api.ErrRange)
				}
			}
			for id := 2; id < pages; id++ {
				mustNotRead(t, p, id, api.ErrNone)
				must(t, "Write", p.Write(id, page(1)), api.ErrNone)
				must(t, "Write of nothing", p.Write(id, ""), api.ErrNone)
				must(t, "Give", p.Give(id), api.ErrNone)
				must(t, "Point", p.Point(1, id), api.ErrNone)
			}
			mustChange(t, p)
			must(t, "Free", p.Free(), pages-2)
			mustHaveRoots(t, p, 0, 0, 0, 0)
		}
	}
}

// 14.2: a page has what was written last, and nothing else may be written.
func TestWrite(t *testing.T) {
	p, d := fresh(t, 4)
	mustAllocAll(t, p, 3)
	for _, n := range []int{0, 1, 256, 1023, 1025, 2048} {
		must(t, fmt.Sprint("Write of ", n), p.Write(2, strings.Repeat("x", n)), api.ErrArg)
	}
	mustRead(t, p, 2, blank)
	mustWrite(t, p, 2, page(2))
	mustWrite(t, p, 3, page(3))
	mustRead(t, p, 1, blank)
	mustRead(t, p, 2, page(2))
	mustRead(t, p, 3, page(3))
	mustWrite(t, p, 2, page(4))
	must(t, "Write of nothing", p.Write(2, ""), api.ErrArg)
	mustRead(t, p, 2, page(4))
	must(t, "writes", d.Writes(), 0)
	mustCommit(t, p)
	mustRead(t, p, 2, page(4))
	mustRead(t, p, 3, page(3))
	mustWrite(t, p, 3, page(6))
	mustRead(t, p, 3, page(6))
	q := again(t, d, 4)
	mustRead(t, q, 2, page(4))
	mustRead(t, q, 3, page(3))
}

// 14.2: Alloc has the least free page, till there is none; it has noughts, whatever stands there.
func TestAlloc(t *testing.T) {
	for _, pages := range []int{2, 3, 8, 9, 10, 127, 128} {
		j := mustJournal(t, mustDisk(t, pages), pages)
		for id := 1; id < pages; id++ {
			mustHold(t, j, journal.Change{Page: id, Data: page(id)})
		}
		p := mustOpen(t, j)
		for id := 1; id < pages; id++ {
			must(t, "Free", p.Free(), pages-id)
			mustAlloc(t, p, id)
			must(t, "Used", p.Used(id), true)
			mustRead(t, p, id, blank)
		}
		must(t, "Free", p.Free(), 0)
		for range 2 {
			if id, e := p.Alloc(); id != 0 || e != api.ErrFull {
				t.Fatalf("Alloc: %d, %v", id, e)
			}
		}
		for id := pages - 1; id >= 1; id -= 2 {
			mustGive(t, p, id)
		}
		for id := 1; id < pages; id++ {
			if (pages-1-id)%2 == 0 {
				mustAlloc(t, p, id)
			}
		}
		must(t, "Free", p.Free(), 0)
		mustCommit(t, p)
		for id := 1; id < pages; id++ {
			s, _ := j.Read(id)
			must(t, "what stands", s, blank)
		}
	}
}

// 14.2, 14.6: a page that was given is free, and has noughts when it comes again, be it committed between or not.
func TestGive(t *testing.T) {
	for steps := range 8 {
		p, d := fresh(t, 4)
		commit := func(step int) {
			t.Helper()
			if steps>>step&1 == 1 {
				mustCommit(t, p)
			}
		}
		mustAllocAll(t, p, 3)
		mustWrite(t, p, 2, page(2))
		mustWrite(t, p, 3, page(3))
		commit(0)
		mustGive(t, p, 2)
		must(t, "Used", p.Used(2), false)
		must(t, "Free", p.Free(), 1)
		mustNotRead(t, p, 2, api.ErrNone)
		must(t, "Write", p.Write(2, page(1)), api.ErrNone)
		must(t, "Give", p.Give(2), api.ErrNone)
		commit(1)
		mustAlloc(t, p, 2)
		mustRead(t, p, 2, blank)
		mustRead(t, p, 3, page(3))
		commit(2)
		mustRead(t, p, 2, blank)
		mustCommit(t, p)
		q := again(t, d, 4)
		mustRead(t, q, 1, blank)
		mustRead(t, q, 2, blank)
		mustRead(t, q, 3, page(3))
	}
}

// 14.2: no page is given to which a root points, whichever root it is; who points it elsewhere can give it.
func TestGiveOfARoot(t *testing.T) {
	for k := range 4 {
		p, _ := fresh(t, 4+k)
		mustAllocAll(t, p, 3)
		mustWrite(t, p, 2, page(2))
		mustPoint(t, p, k, 2)
		must(t, "Give", p.Give(2), api.ErrState)
		mustRead(t, p, 2, page(2))
		mustGive(t, p, 1)
		mustCommit(t, p)
		must(t, "Give", p.Give(2), api.ErrState)
		mustPoint(t, p, (k+1)%4, 2)
		mustPoint(t, p, k, 0)
		must(t, "Give", p.Give(2), api.ErrState)
		mustPoint(t, p, (k+1)%4, 3)
		mustGive(t, p, 2)
		must(t, "Give", p.Give(3), api.ErrState)
	}
}

// 14.2: what is read, and what isn't, while the disk is down.
func TestDown(t *testing.T) {
	p, d := fresh(t, 7)
	mustAllocAll(t, p, 4)
	for id := 1; id <= 4; id++ {
		mustWrite(t, p, id, page(id))
	}
	mustCommit(t, p)
	mustWrite(t, p, 1, page(11))
	mustWrite(t, p, 2, page(2)) // what it has already
	mustAlloc(t, p, 5)
	mustSave(t, p, 0)
	d.Fail(nil)
	mustRead(t, p, 1, page(11))
	mustRead(t, p, 2, page(2))
	mustNotRead(t, p, 3, api.ErrDown)
	mustNotRead(t, p, 4, api.ErrDown)
	mustRead(t, p, 5, blank)
	mustNotRead(t, p, 6, api.ErrNone)
	mustNotRead(t, p, 7, api.ErrRange)
	mustWrite(t, p, 3, page(13))
	mustRead(t, p, 3, page(13))
	mustWrite(t, p, 4, page(4))
	mustChange(t, p, 0, 1, 3)
	mustAlloc(t, p, 6)
	mustGive(t, p, 1)
	mustAlloc(t, p, 1)
	mustRead(t, p, 1, blank)
	mustPoint(t, p, 3, 6)
	mustSave(t, p, 1)
	mustChange(t, p, 0, 1, 3)
	mustBack(t, p, 0)
	mustNotRead(t, p, 3, api.ErrDown)
	mustNotRead(t, p, 6, api.ErrNone)
	mustHaveRoots(t, p, 0, 0, 0, 0)
	mustChange(t, p, 0, 1)
	must(t, "Start", d.Start(), api.OK)
	mustRead(t, p, 3, page(3))
	mustCommit(t, p)
	d.Fail(nil)
	for id := 1; id <= 5; id++ {
		mustNotRead(t, p, id, api.ErrDown)
	}
}

// 14.3: the roots.
func TestPoint(t *testing.T) {
	p, d := fresh(t, 5)
	mustAllocAll(t, p, 3)
	for _, k := range []int{math.MinInt, -4, -1, 4, 5, 256, math.MaxInt} {
		must(t, "Root", p.Root(k), 0)
		must(t, "Point", p.Point(k, 0), api.ErrRange)
		must(t, "Point", p.Point(k, 1), api.ErrRange)
		must(t, "Point", p.Point(k, 4), api.ErrRange)
		must(t, "Point", p.Point(k, 5), api.ErrRange)
	}
	for k := range 4 {
		for _, id := range []int{-1, 5, 128, 65536, 65537} {
			must(t, "Point", p.Point(k, id), api.ErrRange)
		}
		must(t, "Point", p.Point(k, 4), api.ErrNone)
	}
	mustHaveRoots(t, p, 0, 0, 0, 0)
	mustPoint(t, p, 0, 3)
	mustHaveRoots(t, p, 3, 0, 0, 0)
	mustPoint(t, p, 1, 1)
	mustPoint(t, p, 2, 3)
	mustPoint(t, p, 3, 2)
	mustHaveRoots(t, p, 3, 1, 3, 2)
	must(t, "Point", p.Point(2, 4), api.ErrNone)
	must(t, "Point", p.Point(2, -1), api.ErrRange)
	mustHaveRoots(t, p, 3, 1, 3, 2)
	mustPoint(t, p, 3, 2)
	mustPoint(t, p, 2, 0)
	mustHaveRoots(t, p, 3, 1, 0, 2)
	mustCommit(t, p)
	mustHaveRoots(t, p, 3, 1, 0, 2)
	mustPoint(t, p, 0, 0)
	mustHaveRoots(t, again(t, d, 5), 3, 1, 0, 2)
	mustCommit(t, p)
	mustHaveRoots(t, again(t, d, 5), 0, 1, 0, 2)
}

// 14.4: up to 16 savepoints, and which of them are gone behind a Back.
func TestSavepoints(t *testing.T) {
	p, d := fresh(t, 3)
	mustAlloc(t, p, 1)
	for _, n := range []int{math.MinInt, -1, 0, 1, math.MaxInt} {
		must(t, "Back", p.Back(n), api.ErrNone)
	}
	for n := range 16 {
		mustWrite(t, p, 1, page(n))
		mustSave(t, p, n)
	}
	for range 2 {
		if n, e := p.Save(); n != 0 || e != api.ErrFull {
			t.Fatalf("Save: %d, %v", n, e)
		}
	}
	mustWrite(t, p, 1, page(99))
	for _, n := range []int{math.MinInt, -1, 16, 17, math.MaxInt} {
		must(t, "Back", p.Back(n), api.ErrNone)
	}
	mustRead(t, p, 1, page(99))
	mustBack(t, p, 15)
	mustRead(t, p, 1, page(15))
	must(t, "Back", p.Back(15), api.ErrNone)
	mustSave(t, p, 15)
	mustBack(t, p, 7)
	mustRead(t, p, 1, page(7))
	for n := 7; n < 17; n++ {
		must(t, "Back", p.Back(n), api.ErrNone)
	}
	mustWrite(t, p, 1, page(77))
	mustSave(t, p, 7)
	mustWrite(t, p, 1, page(78))
	mustBack(t, p, 7)
	mustRead(t, p, 1, page(77))
	mustBack(t, p, 3)
	mustRead(t, p, 1, page(3))
	mustBack(t, p, 0)
	mustRead(t, p, 1, page(0))
	must(t, "Back", p.Back(0), api.ErrNone)
	must(t, "writes", d.Writes(), 0)
	mustCommit(t, p)
	mustRead(t, again(t, d, 3), 1, page(0))
}

// 14.4, 14.6: who goes back has what there was: pages, which are used, roots; whatever was done since.
func TestBack(t *testing.T) {
	for committed := range 2 {
		p, d := fresh(t, 8)
		mustAllocAll(t, p, 4)
		for id := 1; id <= 4; id++ {
			mustWrite(t, p, id, page(id))
		}
		mustPoint(t, p, 1, 4)
		if committed == 1 {
			mustCommit(t, p)
		}
		serial := p.Serial()
		mustGive(t, p, 2)
		mustWrite(t, p, 1, page(11))
		mustSave(t, p, 0)
		was := p.Changed()
		mustAlloc(t, p, 2)
		mustWrite(t, p, 2, page(22))
		mustSave(t, p, 1)
		mustAlloc(t, p, 5)
		mustPoint(t, p, 1, 5)
		mustPoint(t, p, 0, 2)
		mustGive(t, p, 1)
		mustGive(t, p, 3)
		mustWrite(t, p, 4, page(44))
		mustSave(t, p, 2)
		mustWrite(t, p, 4, page(45))
		mustBack(t, p, 2)
		mustRead(t, p, 4, page(44))
		mustBack(t, p, 0)
		must(t, "Free", p.Free(), 4)
		mustHaveRoots(t, p, 0, 4, 0, 0)
		mustRead(t, p, 1, page(11))
		mustNotRead(t, p, 2, api.ErrNone)
		mustRead(t, p, 3, page(3))
		mustRead(t, p, 4, page(4))
		mustNotRead(t, p, 5, api.ErrNone)
		mustChange(t, p, was...)
		must(t, "Serial", p.Serial(), serial)
		mustCommit(t, p)
		q := again(t, d, 8)
		must(t, "Free", q.Free(), 4)
		mustHaveRoots(t, q, 0, 4, 0, 0)
		mustRead(t, q, 1, page(11))
		mustRead(t, q, 3, page(3))
		mustRead(t, q, 4, page(4))
	}
}

// 14.4: a savepoint is the state at its making, not what comes of it; none shares anything with another one.
func TestSavepointsApart(t *testing.T) {
	p, _ := fresh(t, 4)
	mustAllocAll(t, p, 2)
	mustSave(t, p, 0)
	mustSave(t, p, 1)
	mustWrite(t, p, 1, page(1))
	mustGive(t, p, 2)
	mustSave(t, p, 2)
	mustBack(t, p, 1)
	mustRead(t, p, 1, blank)
	mustRead(t, p, 2, blank)
	mustWrite(t, p, 1, page(7))
	mustWrite(t, p, 2, page(8))
	mustGive(t, p, 1)
	mustSave(t, p, 1)
	mustAlloc(t, p, 1)
	mustWrite(t, p, 2, page(9))
	mustBack(t, p, 1)
	must(t, "Used", p.Used(1), false)
	mustRead(t, p, 2, page(8))
	mustBack(t, p, 0)
	mustRead(t, p, 1, blank)
	mustRead(t, p, 2, blank)
}

// 14.4: Changed tells the pages whose bytes differ, and the head with any of them; not the free ones.
func TestChanged(t *testing.T) {
	p, d := fresh(t, 20)
	mustAlloc(t, p, 1)
	mustChange(t, p, 0) // it has noughts already
	for id := 2; id <= 18; id++ {
		mustAlloc(t, p, id)
	}
	mustChange(t, p, 0)
	for _, id := range []int{17, 3, 9, 8, 12} {
		mustWrite(t, p, id, page(id))
	}
	mustChange(t, p, 0, 3, 8, 9, 12, 17)
	mustGive(t, p, 9)
	mustChange(t, p, 0, 3, 8, 12, 17)
	l := p.Changed()
	l[0], l[1] = 99, 99
	mustChange(t, p, 0, 3, 8, 12, 17)
	mustCommit(t, p)
	mustChange(t, p)
	mustWrite(t, p, 3, page(3)) // what it has already
	mustWrite(t, p, 1, blank)
	mustChange(t, p)
	mustWrite(t, p, 3, page(4))
	mustChange(t, p, 0, 3)
	mustWrite(t, p, 3, page(3))
	mustChange(t, p)
	mustGive(t, p, 3)
	mustChange(t, p, 0)
	mustAlloc(t, p, 3)
	mustChange(t, p, 0, 3)
	mustWrite(t, p, 3, page(3))
	mustChange(t, p)
	mustPoint(t, p, 2, 1)
	mustChange(t, p, 0)
	mustPoint(t, p, 2, 0)
	mustChange(t, p)
	mustAlloc(t, p, 9)
	mustWrite(t, p, 9, page(9))
	mustChange(t, p, 0, 9)
	mustGive(t, p, 9)
	mustChange(t, p)
	writes := d.Writes()
	mustCommit(t, p)
	must(t, "writes", d.Writes(), writes)
}

// 14.4, 14.5: a Commit changes just the pages that Changed tells, in one commit of the journal.
func TestCommitWritesWhatIsChanged(t *testing.T) {
	j := mustJournal(t, mustDisk(t, 9), 9)
	p := mustOpen(t, j)
	d := mustDisk(t, 9)
	q := mustOpen(t, mustJournal(t, d, 9))
	r := rand.New(rand.NewSource(3))
	for range 300 {
		for range r.Intn(6) {
			id, n := 1+r.Intn(8), r.Intn(3)
			for _, x := range []*Pager{p, q} {
				switch n {
				case 0:
					x.Alloc()
				case 1:
					x.Give(id)
				default:
					x.Write(id, page(id%4))
				}
			}
		}
		var was []string
		for id := range 9 {
			s, _ := j.Read(id)
			was = append(was, s)
		}
		l := p.Changed()
		mustCommit(t, p)
		writes := d.Writes()
		mustCommit(t, q)
		want := 0
		if len(l) > 0 {
			want = 8*len(l) + 2
		}
		must(t, "writes", d.Writes()-writes, want)
		for id := range 9 {
			s, _ := j.Read(id)
			must(t, fmt.Sprint("changed ", id), s != was[id], slices.Contains(l, id))
		}
	}
}

// 14.5: a Commit that has nothing to change writes nothing, and leaves the serial.
func TestCommitOfNothing(t *testing.T) {
	p, d := fresh(t, 3)
	mustCommit(t, p)
	must(t, "Serial", p.Serial(), uint64(0))
	must(t, "writes", d.Writes(), 0)
	mustAlloc(t, p, 1)
	mustSave(t, p, 0)
	mustGive(t, p, 1)
	mustCommit(t, p)
	must(t, "Back", p.Back(0), api.ErrNone)
	must(t, "writes", d.Writes(), 0)
	mustAlloc(t, p, 1)
	mustWrite(t, p, 1, page(1))
	mustCommit(t, p)
	must(t, "Serial", p.Serial(), uint64(1))
	writes := d.Writes()
	for range 3 {
		mustWrite(t, p, 1, page(1))
		mustCommit(t, p)
		must(t, "Serial", p.Serial(), uint64(1))
		must(t, "writes", d.Writes(), writes)
	}
	d.Fail(nil)
	must(t, "Commit", p.Commit(), api.ErrDown)
	mustNotRead(t, p, 1, api.ErrDown) // it wasn't written since
}

// 14.5: a Commit has all good, and there are no savepoints any more; an Abort goes back to it.
func TestCommitAndAbort(t *testing.T) {
	p, d := fresh(t, 6)
	mustAllocAll(t, p, 3)
	mustWrite(t, p, 1, page(1))
	mustSave(t, p, 0)
	mustSave(t, p, 1)
	mustPoint(t, p, 0, 3)
	mustCommit(t, p)
	must(t, "Serial", p.Serial(), uint64(1))
	must(t, "Back", p.Back(0), api.ErrNone)
	must(t, "Back", p.Back(1), api.ErrNone)
	mustWrite(t, p, 1, page(11))
	mustSave(t, p, 0)
	mustGive(t, p, 2)
	mustAlloc(t, p, 2)
	mustAlloc(t, p, 4)
	mustPoint(t, p, 0, 0)
	mustPoint(t, p, 1, 4)
	mustGive(t, p, 3)
	p.Abort()
	must(t, "Back", p.Back(0), api.ErrNone)
	for _, x := range []*Pager{p, again(t, d, 6)} {
		must(t, "Serial", x.Serial(), uint64(1))
		must(t, "Free", x.Free(), 2)
		mustHaveRoots(t, x, 3, 0, 0, 0)
		mustRead(t, x, 1, page(1))
		mustRead(t, x, 2, blank)
		mustRead(t, x, 3, blank)
		mustNotRead(t, x, 4, api.ErrNone)
		mustChange(t, x)
	}
	mustSave(t, p, 0)
	p.Abort()
	must(t, "Back", p.Back(0), api.ErrNone)
	mustSave(t, p, 0)
	must(t, "Serial", p.Serial(), uint64(1))
}

// 14.5: an Abort ahead of all Commits goes back to the opening.
func TestAbortOfANewOne(t *testing.T) {
	p, d := fresh(t, 3)
	mustAllocAll(t, p, 2)
	mustPoint(t, p, 3, 2)
	p.Abort()
	must(t, "Free", p.Free(), 2)
	mustHaveRoots(t, p, 0, 0, 0, 0)
	mustChange(t, p)
	must(t, "writes", d.Writes(), 0)
	mustAlloc(t, p, 1)
	mustWrite(t, p, 1, page(1))
	mustCommit(t, p)
	q := again(t, d, 3)
	mustWrite(t, q, 1, page(2))
	q.Abort()
	mustRead(t, q, 1, page(1))
}

// 14.5: what is refused while the disk is down, and changes nothing.
func TestCommitAndAbortWhileDown(t *testing.T) {
	p, d := fresh(t, 4)
	mustAllocAll(t, p, 2)
	mustCommit(t, p)
	d.Fail(nil)
	must(t, "Commit of nothing", p.Commit(), api.ErrDown)
	must(t, "Start", d.Start(), api.OK)
	mustWrite(t, p, 1, page(1))
	mustSave(t, p, 0)
	mustAlloc(t, p, 3)
	mustPoint(t, p, 2, 3)
	d.Fail(nil)
	for range 2 {
		must(t, "Commit", p.Commit(), api.ErrDown)
		p.Abort()
		must(t, "Serial", p.Serial(), uint64(1))
		mustRead(t, p, 1, page(1))
		mustRead(t, p, 3, blank)
		mustHaveRoots(t, p, 0, 0, 3, 0)
		mustChange(t, p, 0, 1)
	}
	mustSave(t, p, 1)
	mustBack(t, p, 0)
	must(t, "Used", p.Used(3), false)
	must(t, "Start", d.Start(), api.OK)
	mustCommit(t, p)
	must(t, "Serial", p.Serial(), uint64(2))
	mustRead(t, again(t, d, 4), 1, page(1))
}

// 14.5: the last serial is refused to go on; but a Commit of nothing isn't.
func TestLastSerial(t *testing.T) {
	d := mustDisk(t, 4)
	j := mustJournal(t, d, 4)
	mustHold(t, j, journal.Change{Page: 0, Data: headOf(1<<63-2, [4]uint16{1}, 0, 1)})
	p := mustOpen(t, j)
	mustWrite(t, p, 1, page(1))
	mustCommit(t, p)
	must(t, "Serial", p.Serial(), uint64(1<<63-1))
	mustHead(t, j, headOf(1<<63-1, [4]uint16{1}, 0, 1))
	writes := d.Writes()
	mustCommit(t, p)
	mustWrite(t, p, 1, page(1))
	mustCommit(t, p)
	mustWrite(t, p, 1, page(2))
	mustSave(t, p, 0)
	mustAlloc(t, p, 2)
	for range 2 {
		must(t, "Commit", p.Commit(), api.ErrFull)
		mustRead(t, p, 1, page(2))
		mustChange(t, p, 0, 1)
		must(t, "Used", p.Used(2), true)
	}
	d.Fail(nil)
	must(t, "Commit", p.Commit(), api.ErrDown)
	must(t, "Start", d.Start(), api.OK)
	mustBack(t, p, 0)
	must(t, "Used", p.Used(2), false)
	mustChange(t, p, 0, 1)
	must(t, "Commit", p.Commit(), api.ErrFull)
	p.Abort()
	mustRead(t, p, 1, page(1))
	mustCommit(t, p)
	must(t, "writes", d.Writes(), writes)
	must(t, "Serial", again(t, d, 4).Serial(), uint64(1<<63-1))
}

// 14.5: a nil pager.
func TestNil(t *testing.T) {
	var p *Pager
	must(t, "Pages", p.Pages(), 0)
	must(t, "Free", p.Free(), 0)
	must(t, "Serial", p.Serial(), uint64(0))
	for _, n := range []int{-1, 0, 1, 128} {
		must(t, "Used", p.Used(n), false)
		mustNotRead(t, p, n, api.ErrArg)
		must(t, "Write", p.Write(n, page(1)), api.ErrArg)
		must(t, "Write", p.Write(n, ""), api.ErrArg)
		must(t, "Give", p.Give(n), api.ErrArg)
		must(t, "Root", p.Root(n), 0)
		must(t, "Point", p.Point(n, 0), api.ErrArg)
		must(t, "Point", p.Point(0, n), api.ErrArg)
		must(t, "Back", p.Back(n), api.ErrArg)
	}
	id, e := p.Alloc()
	must(t, "Alloc", id, 0)
	must(t, "Alloc", e, api.ErrArg)
	n, e := p.Save()
	must(t, "Save", n, 0)
	must(t, "Save", e, api.ErrArg)
	mustChange(t, p)
	must(t, "Commit", p.Commit(), api.ErrArg)
	p.Abort()
}
