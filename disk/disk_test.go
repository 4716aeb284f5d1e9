package disk

import (
	"math"
	"math/rand"
	"slices"
	"strings"
	"testing"

	"strongroom/api"
)

var noughts = string(make([]byte, 256))

// text is a sector's bytes that are others for each n.
func text(n int) string {
	b := []byte(strings.Repeat("t", 256))
	for i := range 8 {
		b[i] = byte(n >> (8 * i))
		b[255-i] = b[i]
	}
	return string(b)
}

func mustNew(t *testing.T, sectors int) *Disk {
	t.Helper()
	d, e := New(sectors)
	if d == nil || e != api.OK {
		t.Fatalf("New(%d): %v, %v", sectors, d, e)
	}
	return d
}

// must holds an answer against the one that is asked for.
func must(t *testing.T, what string, got, want any) {
	t.Helper()
	if got != want {
		t.Fatalf("%s: %v, not %v", what, got, want)
	}
}

func mustWrite(t *testing.T, d *Disk, at int, s string) {
	t.Helper()
	must(t, "Write", d.Write(at, s), api.OK)
}

func mustHave(t *testing.T, d *Disk, at int, want string) {
	t.Helper()
	s, e := d.Read(at)
	if s != want || e != api.OK {
		t.Fatalf("Read(%d): %q, %v, not %q", at, s, e, want)
	}
}

// state is all that a disk tells without being changed.
type state struct {
	size, waits, writes int
	up                  bool
	sectors             string
	errno               api.Errno
}

func stateOf(d *Disk) state {
	s := state{size: d.Size(), waits: d.Waits(), writes: d.Writes(), up: d.Up()}
	var b strings.Builder
	for i := range d.Size() {
		x, e := d.Read(i)
		b.WriteString(x)
		s.errno = max(s.errno, e)
	}
	s.sectors = b.String()
	return s
}

// log is a disk told in another way: every write that is there, in its order, and what is read is looked for from behind.
type log struct {
	size         int
	there, waits []write
	writes, fuse int
	up           bool
}

func newLog(size int) *log {
	return &log{size: size, up: true}
}

func (l *log) read(at int) (string, api.Errno) {
	if !l.up {
		return "", api.ErrDown
	}
	if at < 0 || at >= l.size {
		return "", api.ErrRange
	}
	all := slices.Concat(l.there, l.waits)
	for i := len(all) - 1; i >= 0; i-- {
		if all[i].at == at {
			return all[i].text, api.OK
		}
	}
	return noughts, api.OK
}

func (l *log) write(at int, s string) api.Errno {
	if !l.up {
		return api.ErrDown
	}
	if at < 0 || at >= l.size {
		return api.ErrRange
	}
	if len(s) != 256 {
		return api.ErrArg
	}
	l.waits = append(l.waits, write{at, s})
	l.writes++
	if l.fuse > 0 {
		l.fuse--
		if l.fuse == 0 {
			l.up = false
		}
	}
	return api.OK
}

func (l *log) flush() api.Errno {
	if !l.up {
		return api.ErrDown
	}
	l.there = append(l.there, l.waits...)
	l.waits = nil
	return api.OK
}

func (l *log) setFuse(n int) api.Errno {
	if !l.up {
		return api.ErrDown
	}
	if n < 0 {
		return api.ErrRange
	}
	l.fuse = n
	return api.OK
}

func (l *log) fail(picks []bool) {
	for i, p := range picks {
		if p && i < len(l.waits) {
			l.there = append(l.there, l.waits[i])
		}
	}
	l.waits, l.fuse, l.up = nil, 0, false
}

func (l *log) start() api.Errno {
	if l.up || len(l.waits) > 0 {
		return api.ErrState
	}
	l.up = true
	return api.OK
}

func (l *log) clone() *log {
	c := *l
	c.there = slices.Clone(l.there)
	c.waits = slices.Clone(l.waits)
	return &c
}

func (l *log) state() state {
	s := state{size: l.size, waits: len(l.waits), writes: l.writes, up: l.up}
	for i := range l.size {
		x, e := l.read(i)
		s.sectors += x
		s.errno = max(s.errno, e)
	}
	return s
}

// Promise 6.1

func TestNewHasAsManySectorsAsAreAskedFor(t *testing.T) {
	for _, n := range []int{1, 2, 3, 255, 256, 2047, 2048} {
		d := mustNew(t, n)
		must(t, "Size", d.Size(), n)
		must(t, "Up", d.Up(), true)
		must(t, "Waits", d.Waits(), 0)
		must(t, "Writes", d.Writes(), 0)
		for at := range n {
			mustHave(t, d, at, noughts)
		}
	}
}

func TestNewRefusesWhatIsNoDisk(t *testing.T) {
	for _, n := range []int{0, -1, -2048, 2049, 4096, math.MaxInt, math.MinInt} {
		if d, e := New(n); d != nil || e != api.ErrArg {
			t.Fatalf("New(%d): %v, %v", n, d, e)
		}
	}
}

func TestDisksOfOneSizeAreApart(t *testing.T) {
	c, d := mustNew(t, 2), mustNew(t, 2)
	mustWrite(t, c, 0, text(1))
	must(t, "Flush", c.Flush(), api.OK)
	must(t, "the other one", stateOf(d), newLog(2).state())
}

func TestWaitsAndWritesCountEveryWriteThatOKIsAnsweredTo(t *testing.T) {
	d := mustNew(t, 3)
	for i, at := range []int{0, 1, 1, 1, 2, 0} { // the fourth is the third one's like, and counts as it does
		mustWrite(t, d, at, text(at))
		must(t, "Waits", d.Waits(), i+1)
		must(t, "Writes", d.Writes(), i+1)
	}
	d.Write(3, text(1))
	d.Write(0, "")
	must(t, "Waits behind refused ones", d.Waits(), 6)
	must(t, "Writes behind refused ones", d.Writes(), 6)
	d.Flush()
	must(t, "Waits behind Flush", d.Waits(), 0)
	must(t, "Writes behind Flush", d.Writes(), 6)
	mustWrite(t, d, 0, text(9))
	must(t, "Waits", d.Waits(), 1)
	must(t, "Writes", d.Writes(), 7)
	d.Fail(nil)
	must(t, "Waits behind Fail", d.Waits(), 0)
	must(t, "Writes behind Fail, which never were but were answered OK", d.Writes(), 7)
	d.Write(0, text(1))
	must(t, "Writes when it is down", d.Writes(), 7)
	d.Start()
	must(t, "Writes behind Start", d.Writes(), 7)
}

func TestAWriteOfWhatStandsThereWaitsToo(t *testing.T) {
	d := mustNew(t, 1)
	mustWrite(t, d, 0, noughts)
	must(t, "Waits", d.Waits(), 1)
	must(t, "Writes", d.Writes(), 1)
}

// Promise 6.2

func TestReadTellsWhatWasWrittenLast(t *testing.T) {
	d := mustNew(t, 2048)
	for i := range 3 {
		for _, at := range []int{0, 1, 1023, 2047} {
			mustWrite(t, d, at, text(10*at+i))
			mustHave(t, d, at, text(10*at+i))
		}
	}
	mustHave(t, d, 2, noughts)
	mustHave(t, d, 2046, noughts)
	must(t, "Flush", d.Flush(), api.OK)
	for _, at := range []int{0, 1, 1023, 2047} {
		mustHave(t, d, at, text(10*at+2))
	}
}

func TestEveryByteIsKept(t *testing.T) {
	b := make([]byte, 256)
	for i := range b {
		b[i] = byte(255 - i)
	}
	d := mustNew(t, 1)
	mustWrite(t, d, 0, string(b))
	mustHave(t, d, 0, string(b))
	d.Flush()
	d.Fail(nil)
	d.Start()
	mustHave(t, d, 0, string(b))
}

func TestThereAreNoSectorsBeforeAndBehindADisk(t *testing.T) {
	for _, n := range []int{1, 7, 2048} {
		d := mustNew(t, n)
		before := stateOf(d)
		for _, at := range []int{-1, n, n + 1, 1 << 20, math.MaxInt, math.MinInt} {
			s, e := d.Read(at)
			if s != "" || e != api.ErrRange {
				t.Fatalf("Read(%d) of %d: %q, %v", at, n, s, e)
			}
			must(t, "Write", d.Write(at, text(1)), api.ErrRange)
			must(t, "Write of what is no sector", d.Write(at, ""), api.ErrRange)
		}
		must(t, "what is told then", stateOf(d), before)
	}
}

func TestWriteTakes256BytesOnly(t *testing.T) {
	d := mustNew(t, 2)
	mustWrite(t, d, 0, text(1))
	before := stateOf(d)
	for _, n := range []int{0, 1, 128, 255, 257, 512, 1024, 65536} {
		must(t, "Write", d.Write(0, strings.Repeat("a", n)), api.ErrArg)
	}
	must(t, "Write of 256 runes", d.Write(0, strings.Repeat("é", 256)), api.ErrArg)
	must(t, "what is told then", stateOf(d), before)
	mustWrite(t, d, 0, strings.Repeat("é", 128))
}

func TestADiskThatIsDownTellsThatFirst(t *testing.T) {
	d := mustNew(t, 2)
	mustWrite(t, d, 0, text(1))
	d.Flush()
	d.Fail(nil)
	before := stateOf(d)
	for _, at := range []int{0, 1, 2, -1} {
		s, e := d.Read(at)
		if s != "" || e != api.ErrDown {
			t.Fatalf("Read(%d): %q, %v", at, s, e)
		}
		must(t, "Write", d.Write(at, text(2)), api.ErrDown)
		must(t, "Write of what is no sector", d.Write(at, "a"), api.ErrDown)
	}
	must(t, "Flush", d.Flush(), api.ErrDown)
	must(t, "what is told then", stateOf(d), before)
	must(t, "Start", d.Start(), api.OK)
	mustHave(t, d, 0, text(1))
}

func TestFlushHasAllThatWaitsThereForGood(t *testing.T) {
	d := mustNew(t, 4)
	must(t, "Flush of nothing", d.Flush(), api.OK)
	for _, at := range []int{0, 1, 0, 3} {
		mustWrite(t, d, at, text(d.Writes()))
	}
	must(t, "Flush", d.Flush(), api.OK)
	must(t, "Waits", d.Waits(), 0)
	must(t, "Up", d.Up(), true)
	d.Fail(nil)
	must(t, "Start", d.Start(), api.OK)
	for at, want := range []string{text(2), text(1), noughts, text(3)} {
		mustHave(t, d, at, want)
	}
}

func TestFlushOfADiskWhoseFuseEndedIsRefused(t *testing.T) {
	d := mustNew(t, 1)
	d.Fuse(1)
	mustWrite(t, d, 0, text(1))
	must(t, "Flush", d.Flush(), api.ErrDown)
	must(t, "Waits", d.Waits(), 1)
	d.Fail(nil)
	d.Start()
	mustHave(t, d, 0, noughts)
}

// Promise 6.3

func TestTheFuseEndsBehindSoManyWrites(t *testing.T) {
	for _, n := range []int{1, 2, 3, 10} {
		d := mustNew(t, 2)
		must(t, "Fuse", d.Fuse(n), api.OK)
		for i := range n {
			must(t, "Up", d.Up(), true)
			d.Flush()               // no write
			d.Read(0)               // none either
			d.Write(2, text(1))     // refused
			d.Write(0, "not these") // refused
			mustWrite(t, d, 0, text(i))
		}
		must(t, "Up behind the last one", d.Up(), false)
		must(t, "Waits", d.Waits(), 1)
		must(t, "Writes", d.Writes(), n)
		must(t, "one more", d.Write(0, text(99)), api.ErrDown)
		must(t, "Start, as a write waits", d.Start(), api.ErrState)
		d.Fail([]bool{true})
		must(t, "Start", d.Start(), api.OK)
		mustHave(t, d, 0, text(n-1))
		for i := range 2 * n { // there is no fuse any more
			mustWrite(t, d, 1, text(i))
		}
		must(t, "Up", d.Up(), true)
	}
}

func TestAFuseOf0IsNone(t *testing.T) {
	d := mustNew(t, 1)
	d.Fuse(2)
	mustWrite(t, d, 0, text(1))
	must(t, "Fuse", d.Fuse(0), api.OK)
	for i := range 5 {
		mustWrite(t, d, 0, text(i))
	}
	must(t, "Up", d.Up(), true)
}

func TestAFuseTakesTheOtherOnesPlace(t *testing.T) {
	d := mustNew(t, 1)
	d.Fuse(5)
	mustWrite(t, d, 0, text(1))
	must(t, "Fuse", d.Fuse(2), api.OK)
	mustWrite(t, d, 0, text(2))
	must(t, "Up", d.Up(), true)
	mustWrite(t, d, 0, text(3))
	must(t, "Up", d.Up(), false)
}

func TestAFuseThatIsRefusedChangesNothing(t *testing.T) {
	d := mustNew(t, 1)
	d.Fuse(2)
	for _, n := range []int{-1, -2, math.MinInt} {
		must(t, "Fuse", d.Fuse(n), api.ErrRange)
	}
	mustWrite(t, d, 0, text(1))
	must(t, "Up", d.Up(), true)
	mustWrite(t, d, 0, text(2))
	must(t, "Up", d.Up(), false)
	for _, n := range []int{-1, 0, 1, math.MaxInt} {
		must(t, "Fuse of one that is down", d.Fuse(n), api.ErrDown)
	}
	d.Fail(nil)
	d.Start()
	mustWrite(t, d, 0, text(3))
	must(t, "Up", d.Up(), true)
}

func TestTheLongestFuse(t *testing.T) {
	d := mustNew(t, 1)
	must(t, "Fuse", d.Fuse(math.MaxInt), api.OK)
	for i := range 100 {
		mustWrite(t, d, 0, text(i))
	}
	must(t, "Up", d.Up(), true)
}

func TestFailEndsTheFuse(t *testing.T) {
	d := mustNew(t, 1)
	d.Fuse(1)
	d.Fail(nil)
	d.Start()
	mustWrite(t, d, 0, text(1))
	must(t, "Up", d.Up(), true)
}

func TestOfOneWriteThatWaits(t *testing.T) {
	for _, c := range []struct {
		picks []bool
		want  string
	}{
		{nil, noughts},
		{[]bool{}, noughts},
		{[]bool{false}, noughts},
		{[]bool{false, true, true}, noughts},
		{[]bool{true}, text(1)},
		{[]bool{true, false}, text(1)},
		{[]bool{true, true, true}, text(1)},
	} {
		d := mustNew(t, 1)
		mustWrite(t, d, 0, text(1))
		d.Fail(c.picks)
		must(t, "Up", d.Up(), false)
		must(t, "Waits", d.Waits(), 0)
		must(t, "Writes", d.Writes(), 1)
		must(t, "Start", d.Start(), api.OK)
		must(t, "Up", d.Up(), true)
		mustHave(t, d, 0, c.want)
	}
}

// picksOf are the bits of a number, n of them.
func picksOf(bits, n int) []bool {
	l := make([]bool, n)
	for i := range l {
		l[i] = bits>>i&1 == 1
	}
	return l
}

func TestAnyOfTheWritesThatWaitMayBeThere(t *testing.T) {
	ats := []int{0, 1, 0, 2, 1, 0} // some over others
	for size := range len(ats) + 3 {
		for bits := range 1 << size {
			picks := picksOf(bits, size)
			d := mustNew(t, 4)
			mustWrite(t, d, 1, text(100))
			mustWrite(t, d, 3, text(101))
			d.Flush()
			want := []string{noughts, text(100), noughts, text(101)}
			for i, at := range ats {
				mustWrite(t, d, at, text(i))
				if i < len(picks) && picks[i] {
					want[at] = text(i)
				}
			}
			given := slices.Clone(picks)
			d.Fail(picks)
			if !slices.Equal(picks, given) {
				t.Fatal("what is handed in is changed")
			}
			must(t, "Start", d.Start(), api.OK)
			for at, s := range want {
				mustHave(t, d, at, s)
			}
		}
	}
}

func TestAPickedWriteOfWhatStoodThereGoesOverAnotherOne(t *testing.T) {
	d := mustNew(t, 1)
	mustWrite(t, d, 0, text(1))
	d.Flush()
	mustWrite(t, d, 0, text(2))
	mustWrite(t, d, 0, text(1))
	d.Fail([]bool{true, true})
	d.Start()
	mustHave(t, d, 0, text(1))
	mustWrite(t, d, 0, text(2))
	mustWrite(t, d, 0, text(1))
	d.Fail([]bool{true})
	d.Start()
	mustHave(t, d, 0, text(2))
}

func TestSameBytesInAnotherSectorAreAnotherWrite(t *testing.T) {
	d := mustNew(t, 2)
	mustWrite(t, d, 0, text(1))
	mustWrite(t, d, 1, text(1))
	d.Fail([]bool{false, true})
	d.Start()
	mustHave(t, d, 0, noughts)
	mustHave(t, d, 1, text(1))
}

func TestFailOfADiskThatIsDown(t *testing.T) {
	d := mustNew(t, 2)
	d.Fuse(2)
	mustWrite(t, d, 0, text(1))
	mustWrite(t, d, 1, text(2))
	must(t, "Up", d.Up(), false)
	must(t, "Waits", d.Waits(), 2)
	d.Fail([]bool{false, true})
	must(t, "Waits", d.Waits(), 0)
	d.Fail([]bool{true, true}) // none waits any more
	must(t, "Up", d.Up(), false)
	must(t, "Start", d.Start(), api.OK)
	mustHave(t, d, 0, noughts)
	mustHave(t, d, 1, text(2))
}

func TestWhatFailedOnceIsNotPickedLater(t *testing.T) {
	d := mustNew(t, 1)
	mustWrite(t, d, 0, text(1))
	d.Fail(nil)
	d.Start()
	d.Fail([]bool{true})
	d.Start()
	mustHave(t, d, 0, noughts)
	must(t, "Flush", d.Flush(), api.OK)
	mustHave(t, d, 0, noughts)
}

func TestStartIsRefusedOfADiskThatIsUp(t *testing.T) {
	d := mustNew(t, 1)
	must(t, "Start", d.Start(), api.ErrState)
	mustWrite(t, d, 0, text(1))
	must(t, "Start", d.Start(), api.ErrState)
	must(t, "Waits", d.Waits(), 1)
	mustHave(t, d, 0, text(1))
	d.Fail(nil)
	must(t, "Start", d.Start(), api.OK)
	must(t, "Start once more", d.Start(), api.ErrState)
}

func TestStartIsRefusedWhileWritesWait(t *testing.T) {
	d := mustNew(t, 1)
	d.Fuse(1)
	mustWrite(t, d, 0, text(1))
	before := stateOf(d)
	must(t, "Start", d.Start(), api.ErrState)
	must(t, "what is told then", stateOf(d), before)
	d.Fail([]bool{true})
	must(t, "Start", d.Start(), api.OK)
	mustHave(t, d, 0, text(1))
}

func TestACloneGoesOnByItself(t *testing.T) {
	d := mustNew(t, 3)
	mustWrite(t, d, 0, text(1))
	d.Flush()
	for i := range 5 { // so that the list of those that wait has room that a clone might share
		mustWrite(t, d, 1, text(10+i))
	}
	d.Fuse(2)
	c := d.Clone()
	if c == d {
		t.Fatal("it is the disk itself")
	}
	must(t, "what the clone tells", stateOf(c), stateOf(d))

	mustWrite(t, c, 2, text(20))
	mustWrite(t, d, 2, text(30))
	mustHave(t, c, 2, text(20))
	mustHave(t, d, 2, text(30))
	must(t, "Up", c.Up() && d.Up(), true)
	mustWrite(t, d, 0, text(31))
	must(t, "the fuse of the disk", d.Up(), false)
	must(t, "the fuse of the clone", c.Up(), true)
	must(t, "Writes", c.Writes(), 7)
	must(t, "Writes", d.Writes(), 8)

	d.Fail([]bool{true, false, false, false, false, true, true})
	must(t, "Waits", c.Waits(), 6)
	c.Fail([]bool{false, true, false, false, false, true, true})
	c.Start()
	d.Start()
	for at, want := range []string{text(1), text(11), text(20)} {
		mustHave(t, c, at, want)
	}
	for at, want := range []string{text(31), text(10), text(30)} {
		mustHave(t, d, at, want)
	}
	mustWrite(t, d, 0, text(40))
	d.Flush()
	mustHave(t, c, 0, text(1))
}

func TestACloneOfADiskThatIsDown(t *testing.T) {
	d := mustNew(t, 1)
	d.Fuse(1)
	mustWrite(t, d, 0, text(1))
	c := d.Clone()
	must(t, "Up", c.Up(), false)
	must(t, "Waits", c.Waits(), 1)
	must(t, "Start", c.Start(), api.ErrState)
	c.Fail([]bool{true})
	must(t, "Start", c.Start(), api.OK)
	mustHave(t, c, 0, text(1))
	must(t, "Waits of the disk", d.Waits(), 1)
	d.Fail(nil)
	d.Start()
	mustHave(t, d, 0, noughts)
}

func TestANilDisk(t *testing.T) {
	var d *Disk
	must(t, "Size", d.Size(), 0)
	must(t, "Waits", d.Waits(), 0)
	must(t, "Writes", d.Writes(), 0)
	must(t, "Up", d.Up(), false)
	s, e := d.Read(0)
	if s != "" || e != api.ErrArg {
		t.Fatalf("Read: %q, %v", s, e)
	}
	must(t, "Write", d.Write(-1, ""), api.ErrArg)
	must(t, "Write", d.Write(0, text(1)), api.ErrArg)
	must(t, "Flush", d.Flush(), api.ErrArg)
	must(t, "Fuse", d.Fuse(-1), api.ErrArg)
	must(t, "Fuse", d.Fuse(1), api.ErrArg)
	d.Fail(nil)
	d.Fail([]bool{true})
	must(t, "Start", d.Start(), api.ErrArg)
	if c := d.Clone(); c != nil {
		t.Fatal("Clone:", c)
	}
}

// Promise 6.4

func TestWhatWasFlushedStaysWhateverIsPicked(t *testing.T) {
	r := rand.New(rand.NewSource(6))
	for range 300 {
		d := mustNew(t, 6)
		flushed := slices.Repeat([]string{noughts}, 6)
		for range r.Intn(20) {
			at := r.Intn(6)
			flushed[at] = text(r.Int())
			mustWrite(t, d, at, flushed[at])
		}
		d.Flush()
		may := make([][]string, 6)
		for i := range flushed {
			may[i] = []string{flushed[i]}
		}
		n := r.Intn(12)
		for range n {
			at := r.Intn(5) // the last sector has none that waits
			s := text(r.Int())
			may[at] = append(may[at], s)
			mustWrite(t, d, at, s)
		}
		d.Fail(picksOf(r.Int(), r.Intn(16)))
		must(t, "Start", d.Start(), api.OK)
		for at := range may {
			s, e := d.Read(at)
			if e != api.OK || !slices.Contains(may[at], s) {
				t.Fatalf("Read(%d): %q, %v: neither flushed nor written", at, s, e)
			}
		}
	}
}

// both is a disk and the log that is held against it.
type both struct {
	d *Disk
	l *log
}

// step does one thing at random to both, and holds their answers against each other.
func (b both) step(t *testing.T, r *rand.Rand) {
	t.Helper()
	at := r.Intn(b.l.size+2) - 1
	switch r.Intn(12) {
	case 0, 1, 2, 3, 4:
		s := text(r.Intn(5))
		if r.Intn(10) == 0 {
			s = s[r.Intn(2):] + "a"
		}
		must(t, "Write", b.d.Write(at, s), b.l.write(at, s))
	case 5, 6:
		must(t, "Flush", b.d.Flush(), b.l.flush())
	case 7:
		n := r.Intn(6) - 1
		must(t, "Fuse", b.d.Fuse(n), b.l.setFuse(n))
	case 8:
		picks := picksOf(r.Int(), r.Intn(12))
		b.d.Fail(picks)
		b.l.fail(picks)
	case 9, 10:
		must(t, "Start", b.d.Start(), b.l.start())
	case 11:
		s, e := b.d.Read(at)
		want, errno := b.l.read(at)
		must(t, "Read", s, want)
		must(t, "Read", e, errno)
	}
	must(t, "what is told", stateOf(b.d), b.l.state())
}

func TestDisksGoOnAsTheirLogsDo(t *testing.T) {
	r := rand.New(rand.NewSource(61))
	for range 60 {
		size := 1 + r.Intn(5)
		all := []both{{mustNew(t, size), newLog(size)}}
		for range 150 {
			i := r.Intn(len(all))
			all[i].step(t, r)
			if len(all) < 4 && r.Intn(20) == 0 {
				all = append(all, both{all[i].d.Clone(), all[i].l.clone()})
			}
		}
		for _, b := range all {
			must(t, "what is told in the end", stateOf(b.d), b.l.state())
		}
	}
}

func TestManyWritesThatWait(t *testing.T) {
	d := mustNew(t, 2048)
	picks := make([]bool, 100000)
	for i := range picks {
		mustWrite(t, d, i%2048, text(i))
		picks[i] = i < 90000
	}
	must(t, "Waits", d.Waits(), 100000)
	mustHave(t, d, 99999%2048, text(99999))
	d.Fail(picks)
	d.Start()
	mustHave(t, d, 89999%2048, text(89999))
	mustHave(t, d, 90000%2048, text(90000-2048))
}
