package audit

import (
	"bytes"
	"crypto/hmac"
	"crypto/sha256"
	"encoding/binary"
	"fmt"
	"math"
	"math/rand"
	"slices"
	"strings"
	"testing"

	"strongroom/api"
)

// must holds an answer against the one that is asked for.
func must(t *testing.T, what string, got, want any) {
	t.Helper()
	if got != want {
		t.Fatalf("%s: %#v, not %#v", what, got, want)
	}
}

// mustBe holds an audit against the one that is asked for; nil and empty lists are one.
func mustBe(t *testing.T, what string, got, want Audit) {
	t.Helper()
	if got.Anchor != want.Anchor || got.Last != want.Last || !slices.Equal(got.L, want.L) {
		t.Fatalf("%s: %#v, not %#v", what, got, want)
	}
}

// standard is a seal as Go's library makes it.
func standard(key, message string) string {
	h := hmac.New(sha256.New, []byte(key))
	h.Write([]byte(message))
	return string(h.Sum(nil))
}

// numbers is the bytes of numbers, one behind the other, as Go's library writes them.
func numbers(l ...uint64) string {
	var b []byte
	for _, n := range l {
		b = binary.AppendUvarint(b, n)
	}
	return string(b)
}

func textBytes(s string) string { return numbers(uint64(len(s))) + s }

func plainEntry(e api.Entry) string {
	return numbers(uint64(e.Seq), uint64(e.Time), uint64(e.Kind)) + textBytes(e.Path) + numbers(uint64(e.Errno))
}

// plainChain is what an anchor and entries give as the chapter's words say.
func plainChain(anchor string, l []api.Entry) string {
	for _, e := range l {
		anchor = standard(anchor, plainEntry(e))
	}
	return anchor
}

// plainBytes is an audit's bytes as the chapter's words make them, whether it may be or not.
func plainBytes(a Audit) []byte {
	s := textBytes(a.Anchor) + numbers(uint64(a.Last), uint64(len(a.L)))
	for _, e := range a.L {
		s += plainEntry(e)
	}
	return []byte(s)
}

var noughts = string(make([]byte, 32))

// some is n entries with rising Seqs from first on, no two alike.
func some(first, n int) []api.Entry {
	var l []api.Entry
	for i := range n {
		s := first + i
		l = append(l, api.Entry{Seq: s, Time: 1000 + s%1000, Kind: s % 101, Path: fmt.Sprintf("p/%d", s), Errno: api.Errno(s * 7 % 101)})
	}
	return l
}

// ofHistory is the audit of all entries that there ever were, by a root: what the chapter's words make of them from behind.
func ofHistory(root string, h []api.Entry) Audit {
	cut := max(len(h)-8, 0)
	return Audit{Anchor: plainChain(root, h[:cut]), Last: len(h), L: slices.Clone(h[cut:])}
}

// upTo is an audit whose last entry is last, of which no more than the entries and an anchor is known.
func upTo(last int) Audit {
	n := min(last, 8)
	return Audit{Anchor: standard("anchor", numbers(uint64(last))), Last: last, L: some(last-n+1, n)}
}

func changed(a Audit, change func(a *Audit)) Audit {
	a.L = slices.Clone(a.L)
	change(&a)
	return a
}

// goodEntries are entries at the edges of what may be; their Seqs are passed over.
var goodEntries = []api.Entry{
	{},
	{Time: api.MaxTime, Kind: 100, Path: strings.Repeat("x", 32), Errno: 100},
	{Time: 1, Kind: 1, Path: "a", Errno: 1},
	{Time: 127, Kind: 99, Path: "a/b", Errno: 99},
	{Time: 128, Kind: 14, Path: "/", Errno: 12},
	{Time: api.MaxTime - 1, Path: strings.Repeat("\xff", 31)},
	{Path: "\x00"},
	{Path: "A//.. \n"},
	{Path: "é" + strings.Repeat("z", 30)},
}

// badEntries are what is no entry, each for one cause alone, whatever their Seqs.
var badEntries = []api.Entry{
	{Time: -1, Kind: 1, Path: "a", Errno: 1},
	{Time: api.MaxTime + 1, Kind: 1, Path: "a", Errno: 1},
	{Time: 1 << 41, Kind: 1, Path: "a", Errno: 1},
	{Time: math.MinInt, Kind: 1, Path: "a", Errno: 1},
	{Time: math.MaxInt, Kind: 1, Path: "a", Errno: 1},
	{Time: 1, Kind: -1, Path: "a", Errno: 1},
	{Time: 1, Kind: 101, Path: "a", Errno: 1},
	{Time: 1, Kind: 256, Path: "a", Errno: 1},
	{Time: 1, Kind: 1 << 32, Path: "a", Errno: 1},
	{Time: 1, Kind: math.MinInt, Path: "a", Errno: 1},
	{Time: 1, Kind: math.MaxInt, Path: "a", Errno: 1},
	{Time: 1, Kind: 1, Path: strings.Repeat("x", 33), Errno: 1},
	{Time: 1, Kind: 1, Path: strings.Repeat("x", 34), Errno: 1},
	{Time: 1, Kind: 1, Path: "é" + strings.Repeat("z", 31), Errno: 1}, // 32 letters, but 33 bytes
	{Time: 1, Kind: 1, Path: strings.Repeat("x", 70000), Errno: 1},
	{Time: 1, Kind: 1, Path: "a", Errno: -1},
	{Time: 1, Kind: 1, Path: "a", Errno: 101},
	{Time: 1, Kind: 1, Path: "a", Errno: 256},
	{Time: 1, Kind: 1, Path: "a", Errno: 1 << 32},
	{Time: 1, Kind: 1, Path: "a", Errno: math.MinInt},
	{Time: 1, Kind: 1, Path: "a", Errno: math.MaxInt},
}

// goodAudits are audits that may be, with edges of all kinds.
func goodAudits() []Audit {
	var out []Audit
	for n := range 20 {
		out = append(out, upTo(n), ofHistory(noughts, some(1, n)))
	}
	for _, last := range []int{127, 128, 1 << 14, 1 << 30, api.MaxSeq - 9, api.MaxSeq - 8, api.MaxSeq - 1, api.MaxSeq} {
		out = append(out, upTo(last))
	}
	for _, last := range []int{1, 7, 8, 9, api.MaxSeq} {
		for i, e := range goodEntries {
			a := upTo(last)
			place := i % len(a.L)
			e.Seq = a.L[place].Seq
			a.L[place] = e
			out = append(out, a)
		}
	}
	return append(out, Audit{Anchor: strings.Repeat("\xff", 32)})
}

// badAudits are audits that may not be, each for one cause alone.
func badAudits() map[string]Audit {
	out := map[string]Audit{"none": {}}
	for _, n := range []int{0, 1, 31, 33, 64, 70000} {
		for _, last := range []int{0, 1, 8, 9} {
			a := upTo(last)
			a.Anchor = strings.Repeat("x", n)
			out[fmt.Sprintf("up to %d, an anchor of %d bytes", last, n)] = a
		}
	}
	for _, last := range []int{-1, -8, -9, math.MinInt} {
		out[fmt.Sprintf("up to %d", last)] = Audit{Anchor: noughts, Last: last}
		out[fmt.Sprintf("up to %d, with entries", last)] = Audit{Anchor: noughts, Last: last, L: some(last-7, 8)}
	}
	for _, last := range []int{api.MaxSeq + 1, api.MaxSeq + 8, api.MaxSeq + 9, 1 << 32, 1<<32 + 1, math.MaxInt} {
		out[fmt.Sprintf("up to %d", last)] = upTo(last)
	}
	for _, last := range []int{0, 1, 2, 7, 8, 9, 10, 100, api.MaxSeq} {
		for n := range 20 {
			if n != min(last, 8) {
				out[fmt.Sprintf("up to %d, %d entries", last, n)] = Audit{Anchor: noughts, Last: last, L: some(last-n+1, n)}
			}
		}
	}
	for _, last := range []int{1, 2, 7, 8, 9, api.MaxSeq} {
		for place := range min(last, 8) {
			put := func(what string, change func(e *api.Entry)) {
				out[fmt.Sprintf("up to %d, at %d: %s", last, place, what)] = changed(upTo(last), func(a *Audit) { change(&a.L[place]) })
			}
			for _, by := range []int{-1, 1, 8, -8, 256, 1 << 32, math.MinInt} {
				put(fmt.Sprintf("a Seq that is off by %d", by), func(e *api.Entry) { e.Seq += by })
			}
			put("no Seq", func(e *api.Entry) { e.Seq = 0 })
			for i, bad := range badEntries {
				put(fmt.Sprintf("the bad entry %d", i), func(e *api.Entry) { bad.Seq = e.Seq; *e = bad })
			}
		}
		out[fmt.Sprintf("up to %d, all a Seq too low", last)] = changed(upTo(last), func(a *Audit) { a.L = some(a.L[0].Seq-1, len(a.L)) })
		out[fmt.Sprintf("up to %d, all a Seq too high", last)] = changed(upTo(last), func(a *Audit) { a.L = some(a.L[0].Seq+1, len(a.L)) })
		if last > 1 {
			out[fmt.Sprintf("up to %d, from behind", last)] = changed(upTo(last), func(a *Audit) { slices.Reverse(a.L) })
			out[fmt.Sprintf("up to %d, a Seq left out", last)] = changed(upTo(last), func(a *Audit) { a.L[0].Seq-- })
			out[fmt.Sprintf("up to %d, one twice", last)] = changed(upTo(last), func(a *Audit) { a.L[0] = a.L[1] })
		}
	}
	return out
}

func mustAdd(t *testing.T, a Audit, e api.Entry) Audit {
	t.Helper()
	b, errno := Add(a, e)
	must(t, fmt.Sprintf("Add(%#v, %#v)", a, e), errno, api.OK)
	return b
}

func mustNotAdd(t *testing.T, what string, a Audit, e api.Entry) {
	t.Helper()
	b, errno := Add(a, e)
	must(t, "Add, "+what, errno, api.ErrArg)
	mustBe(t, "beside it, "+what, b, Audit{})
}

// Promise 13.1

func TestNew(t *testing.T) {
	mustBe(t, "New", New(), Audit{Anchor: noughts})
	must(t, "May of it", May(New()), true)
}

func TestMay(t *testing.T) {
	for _, a := range goodAudits() {
		must(t, fmt.Sprintf("May(%#v)", a), May(a), true)
	}
	for what, a := range badAudits() {
		must(t, "May, "+what, May(a), false)
	}
}

func TestMayOfEmptyLists(t *testing.T) {
	must(t, "nil", May(Audit{Anchor: noughts, L: nil}), true)
	must(t, "empty", May(Audit{Anchor: noughts, L: []api.Entry{}}), true)
	must(t, "empty, with a last one", May(Audit{Anchor: noughts, Last: 1, L: []api.Entry{}}), false)
}

// Promise 13.2

func TestAdd(t *testing.T) {
	for _, last := range []int{0, 1, 6, 7, 8, 9, 15, 16, 17, 1000, api.MaxSeq - 1} {
		for _, e := range goodEntries {
			a := upTo(last)
			b := mustAdd(t, a, e)
			e.Seq = last + 1
			want := Audit{Anchor: a.Anchor, Last: last + 1, L: append(upTo(last).L, e)}
			if last >= 8 {
				want.Anchor = standard(a.Anchor, plainEntry(a.L[0]))
				want.L = want.L[1:]
			}
			mustBe(t, fmt.Sprintf("up to %d, one more", last), b, want)
			mustBe(t, "what it goes on from", a, upTo(last))
			must(t, "May of it", May(b), true)
		}
	}
}

func TestAddFromTheBeginning(t *testing.T) {
	a := New()
	h := some(1, 40)
	for n, e := range h {
		mustBe(t, fmt.Sprintf("%d entries", n), a, ofHistory(noughts, h[:n]))
		a = mustAdd(t, a, e)
	}
	mustBe(t, "all entries", a, ofHistory(noughts, h))
}

func TestAddPassesOverTheSeq(t *testing.T) {
	for _, last := range []int{0, 1, 7, 8, 20, api.MaxSeq - 1} {
		want := mustAdd(t, upTo(last), api.Entry{Time: 5, Seq: last + 1})
		for _, seq := range []int{0, -1, 1, 7, last, last + 2, api.MaxSeq, api.MaxSeq + 1, math.MinInt, math.MaxInt} {
			mustBe(t, fmt.Sprintf("up to %d, with the Seq %d", last, seq), mustAdd(t, upTo(last), api.Entry{Time: 5, Seq: seq}), want)
		}
	}
}

func TestAddOfWhatMayNotBe(t *testing.T) {
	for what, a := range badAudits() {
		for _, e := range goodEntries[:3] {
			mustNotAdd(t, what, a, e)
		}
	}
	for _, last := range []int{0, 1, 7, 8, 9, 1000} {
		for i, e := range badEntries {
			mustNotAdd(t, fmt.Sprintf("the bad entry %d behind %d", i, last), upTo(last), e)
		}
	}
}

func TestAddAtTheLastSeq(t *testing.T) {
	a := mustAdd(t, upTo(api.MaxSeq-1), api.Entry{})
	must(t, "Last", a.Last, api.MaxSeq)
	for _, e := range goodEntries {
		mustNotAdd(t, "behind the last Seq", a, e)
		e.Seq = 5
		mustNotAdd(t, "behind the last Seq, with another one", a, e)
	}
}

// Two that go on from one have each a list of its own, even if there is room behind the one's.
func TestAddAnswersNewMemory(t *testing.T) {
	for last := range 12 {
		a := upTo(last)
		a.L = append(make([]api.Entry, 0, 30), a.L...)
		want := upTo(last)
		one, two := mustAdd(t, a, api.Entry{Kind: 1}), mustAdd(t, a, api.Entry{Kind: 2})
		three := mustAdd(t, one, api.Entry{Kind: 3})
		four := mustAdd(t, one, api.Entry{Kind: 4})
		kept := []Audit{changed(one, func(*Audit) {}), changed(two, func(*Audit) {}), changed(three, func(*Audit) {}), changed(four, func(*Audit) {})}
		must(t, "the last one's kind", one.L[len(one.L)-1].Kind, 1)
		must(t, "the last one's kind", two.L[len(two.L)-1].Kind, 2)
		must(t, "the last one's kind", three.L[len(three.L)-1].Kind, 3)
		must(t, "the last one's kind", four.L[len(four.L)-1].Kind, 4)
		must(t, "the room behind what was handed in is as it was", slices.Max(kinds(a.L[len(a.L):30])), 0)
		all := []Audit{one, two, three, four}
		for i, x := range all {
			clear(x.L)
			clear(x.L[:cap(x.L)])
			mustBe(t, "what it goes on from", a, want)
			for j := i + 1; j < len(all); j++ {
				mustBe(t, "another one", all[j], kept[j])
			}
		}
		five := mustAdd(t, a, api.Entry{Kind: 1})
		clear(a.L)
		mustBe(t, "one whose beginning is gone", five, kept[0])
	}
}

func kinds(l []api.Entry) []int {
	var out []int
	for _, e := range l {
		out = append(out, e.Kind)
	}
	return out
}

func TestDigest(t *testing.T) {
	must(t, "of a new one", Digest(New()), noughts)
	for _, a := range goodAudits() {
		must(t, fmt.Sprintf("Digest(%#v)", a), Digest(a), plainChain(a.Anchor, a.L))
	}
	for what, a := range badAudits() {
		must(t, "Digest, "+what, Digest(a), "")
	}
}

// Whatever is changed, of those that are gone too, the digest is another one.
func TestDigestHangsOnAll(t *testing.T) {
	h := some(1, 20)
	seen := map[string]string{Digest(ofHistory(noughts, h)): "as it was"}
	look := func(what string, a Audit) {
		if other, ok := seen[Digest(a)]; ok {
			t.Fatalf("%s has the digest of the one %s", what, other)
		}
		seen[Digest(a)] = what
	}
	for i := range h {
		for what, change := range map[string]func(e *api.Entry){
			"Time":  func(e *api.Entry) { e.Time++ },
			"Kind":  func(e *api.Entry) { e.Kind = (e.Kind + 1) % 101 },
			"Path":  func(e *api.Entry) { e.Path += "x" },
			"Errno": func(e *api.Entry) { e.Errno = (e.Errno + 1) % 101 },
		} {
			a := New()
			for j, e := range h {
				if j == i {
					change(&e)
				}
				a = mustAdd(t, a, e)
			}
			look(fmt.Sprintf("with another %s at %d", what, i), a)
		}
		look(fmt.Sprintf("with %d entries", i), ofHistory(noughts, h[:i]))
	}
	look("with another anchor", changed(ofHistory(noughts, h), func(a *Audit) { a.Anchor = strings.Repeat("x", 32) }))
}

// plainFollows is the chapter's words, one after the other, of two that may be.
func plainFollows(a, b Audit) bool {
	if a.Last > b.Last {
		return false
	}
	asked := a.Last == b.Last
	var ahead []api.Entry
	for _, f := range b.L {
		for _, e := range a.L {
			if e.Seq == f.Seq && e != f {
				return false
			}
		}
		if f.Seq == a.Last+1 {
			asked = true
		}
		if f.Seq <= a.Last {
			ahead = append(ahead, f)
		}
	}
	return !asked || plainChain(a.Anchor, a.L) == plainChain(b.Anchor, ahead)
}

func TestFollowsAlongOneHistory(t *testing.T) {
	h := some(1, 40)
	for i := range 41 {
		for j := range 41 {
			got := Follows(ofHistory(noughts, h[:i]), ofHistory(noughts, h[:j]))
			must(t, fmt.Sprintf("%d follows %d", j, i), got, i <= j)
		}
	}
}

// Two histories that part behind some entries: what b has kept tells, and what it hasn't doesn't.
func TestFollowsWhereHistoriesPart(t *testing.T) {
	for part := range 13 {
		one, two := some(1, 30), some(1, 30)
		two[part].Errno++
		for i := range 31 {
			for j := range 31 {
				a, b := ofHistory(noughts, one[:i]), ofHistory(noughts, two[:j])
				want := i <= j && (i <= part || j > i+8)
				must(t, fmt.Sprintf("%d follows %d, parted at %d", j, i, part), Follows(a, b), want)
			}
		}
	}
}

// With the same entries, but another anchor: it is told if b has kept the one behind a's last one, or none is behind it.
func TestFollowsWithAnotherAnchor(t *testing.T) {
	h := some(1, 40)
	for i := range 31 {
		for j := i; j < 41; j++ {
			a, b := ofHistory(noughts, h[:i]), ofHistory(noughts, h[:j])
			other := strings.Repeat("x", 32)
			want := j > i+8
			must(t, fmt.Sprintf("%d follows %d, a's anchor changed", j, i), Follows(changed(a, func(a *Audit) { a.Anchor = other }), b), want)
			must(t, fmt.Sprintf("%d follows %d, b's anchor changed", j, i), Follows(a, changed(b, func(b *Audit) { b.Anchor = other })), want)
		}
	}
}

func TestFollowsOfChangedEntries(t *testing.T) {
	h := some(1, 30)
	for i := range 20 {
		for j := i; j < 30; j++ {
			a, b := ofHistory(noughts, h[:i]), ofHistory(noughts, h[:j])
			for place := range b.L {
				for what, change := range map[string]func(e *api.Entry){
					"Time":  func(e *api.Entry) { e.Time++ },
					"Kind":  func(e *api.Entry) { e.Kind = (e.Kind + 1) % 101 },
					"Path":  func(e *api.Entry) { e.Path = "x" },
					"Errno": func(e *api.Entry) { e.Errno = (e.Errno + 1) % 101 },
				} {
					c := changed(b, func(b *Audit) { change(&b.L[place]) })
					must(t, fmt.Sprintf("%d follows %d, another %s at %d", j, i, what, place), Follows(a, c), c.L[place].Seq > i)
				}
			}
		}
	}
}

// One whose anchor tells of some that it should have kept has the digest that is asked for, but fewer entries than there must be.
func TestFollowsOfOneThatKeptTooFew(t *testing.T) {
	h := some(1, 20)
	a := ofHistory(noughts, h[:9])
	b := mustAdd(t, a, h[9])
	for n := 1; n < 8; n++ {
		short := Audit{Anchor: plainChain(a.Anchor, a.L[:n]), Last: a.Last, L: a.L[n:]}
		must(t, "the digest of the words", plainChain(short.Anchor, short.L), Digest(a))
		must(t, "Follows of one that may not be", Follows(short, b), false)
	}
}

func TestFollowsOfWhatMayNotBe(t *testing.T) {
	for what, bad := range badAudits() {
		for _, last := range []int{0, 1, 8, 9, 30, api.MaxSeq} {
			must(t, "from one that may not be, "+what, Follows(bad, upTo(last)), false)
			must(t, "to one that may not be, "+what, Follows(upTo(last), bad), false)
		}
		must(t, "from one to the same, "+what, Follows(bad, bad), false)
	}
}

func TestFollowsItself(t *testing.T) {
	for _, a := range goodAudits() {
		must(t, fmt.Sprintf("%#v follows itself", a), Follows(a, a), true)
	}
}

func TestFollowsAtTheLastSeqs(t *testing.T) {
	a := upTo(api.MaxSeq - 12)
	b := a
	for n := range 13 {
		must(t, fmt.Sprintf("%d behind", n), Follows(a, b), true)
		must(t, fmt.Sprintf("%d behind, the other way", n), Follows(b, a), n == 0)
		b, _ = Add(b, api.Entry{Time: n})
	}
	must(t, "the first one of all", Follows(New(), upTo(api.MaxSeq)), true)
	must(t, "the other way", Follows(upTo(api.MaxSeq), New()), false)
}

// randomAudits is many that go on from few, with few entries to choose from, some of them changed.
func randomAudits(r *rand.Rand) []Audit {
	out := []Audit{New(), {Anchor: strings.Repeat("x", 32)}, upTo(3), upTo(8), upTo(12)}
	for len(out) < 60 {
		a := out[r.Intn(len(out))]
		for range 1 + r.Intn(5) {
			a, _ = Add(a, api.Entry{Kind: r.Intn(8) / 7})
		}
		switch r.Intn(6) {
		case 0:
			a.Anchor = noughts
		case 1:
			a.L[r.Intn(len(a.L))].Time = 5
		}
		out = append(out, a)
	}
	return out
}

func TestFollowsByTheWords(t *testing.T) {
	r := rand.New(rand.NewSource(131))
	count := map[bool]int{}
	for range 12 {
		l := randomAudits(r)
		for _, a := range l {
			for _, b := range l {
				want := plainFollows(a, b)
				must(t, fmt.Sprintf("%#v follows %#v", b, a), Follows(a, b), want)
				if a.Last <= b.Last && a.Last+9 > b.Last {
					count[want]++
				}
			}
		}
	}
	if count[true] < 1000 || count[false] < 1000 {
		t.Fatalf("%d follow and %d don't: too few to tell", count[true], count[false])
	}
}

func TestFollowsChangesNothing(t *testing.T) {
	a, b := upTo(9), upTo(12)
	Follows(a, b)
	Digest(a)
	mustBe(t, "a", a, upTo(9))
	mustBe(t, "b", b, upTo(12))
}

// Promise 13.3

func mustEncode(t *testing.T, a Audit) []byte {
	t.Helper()
	b, e := Encode(a)
	must(t, fmt.Sprintf("Encode(%#v)", a), e, api.OK)
	return b
}

func mustDecode(t *testing.T, what string, b []byte, want Audit) {
	t.Helper()
	a, e := Decode(b)
	must(t, "Decode, "+what, e, api.OK)
	mustBe(t, "the audit, "+what, a, want)
}

func mustNotDecode(t *testing.T, what string, b []byte, want api.Errno) {
	t.Helper()
	a, e := Decode(b)
	must(t, "Decode, "+what, e, want)
	mustBe(t, "the audit beside it, "+what, a, Audit{})
}

func TestEncode(t *testing.T) {
	anchor := strings.Repeat("x", 32)
	for _, c := range []struct {
		a    Audit
		want string
	}{
		{New(), "\x20" + noughts + "\x00\x00"},
		{Audit{Anchor: anchor, Last: 1, L: []api.Entry{{Seq: 1}}}, "\x20" + anchor + "\x01\x01\x01\x00\x00\x00\x00"},
		{Audit{Anchor: anchor, Last: 2, L: []api.Entry{
			{Seq: 1, Time: 300, Kind: 100, Path: "a/b", Errno: 12},
			{Seq: 2, Time: api.MaxTime, Kind: 7, Path: "", Errno: 100},
		}}, "\x20" + anchor + "\x02\x02" + "\x01\xac\x02\x64\x03a/b\x0c" + "\x02\x80\x80\x80\x80\x80\x20\x07\x00\x64"},
	} {
		must(t, "the bytes", string(mustEncode(t, c.a)), c.want)
		mustDecode(t, "of those bytes", []byte(c.want), c.a)
	}
	for _, a := range goodAudits() {
		must(t, "the bytes", string(mustEncode(t, a)), string(plainBytes(a)))
	}
	for what, a := range badAudits() {
		b, e := Encode(a)
		must(t, "Encode, "+what, e, api.ErrArg)
		must(t, "bytes beside it, "+what, len(b), 0)
	}
}

func TestEncodeAnswersNewMemory(t *testing.T) {
	a := upTo(9)
	one, two := mustEncode(t, a), mustEncode(t, a)
	want := string(two)
	for i := range one {
		one[i] = '!'
	}
	must(t, "the second answer", string(two), want)
	mustBe(t, "the audit", a, upTo(9))
}

func TestDecodeReadsWhatIsWritten(t *testing.T) {
	for _, a := range goodAudits() {
		b := mustEncode(t, a)
		kept := bytes.Clone(b)
		mustDecode(t, "what was written", b, a)
		must(t, "what was handed in is as it was", string(b), string(kept))
	}
}

func TestDecodeKeepsNothingOfTheBytes(t *testing.T) {
	a := upTo(20)
	b := mustEncode(t, a)
	one, _ := Decode(b)
	two, _ := Decode(b)
	clear(b)
	mustBe(t, "an audit whose bytes are gone", one, a)
	clear(one.L)
	mustBe(t, "an audit, if another one of the same bytes changes", two, a)
}

func TestDecodeOfBytesCutShort(t *testing.T) {
	for _, last := range []int{0, 1, 2, 8, 9, api.MaxSeq} {
		b := plainBytes(upTo(last))
		for n := range len(b) {
			mustNotDecode(t, fmt.Sprintf("up to %d, of %d bytes of %d", last, n, len(b)), b[:n], api.ErrForm)
		}
	}
	mustNotDecode(t, "of nothing", nil, api.ErrForm)
}

func TestDecodeOfBytesThatAreTooLong(t *testing.T) {
	for _, last := range []int{0, 1, 8, 9, api.MaxSeq} {
		b := plainBytes(upTo(last))
		for _, n := range []int{1, 2, 5, 100, 65536 - len(b)} {
			for _, c := range []string{"\x00", "\x01", "\xff"} {
				long := append(bytes.Clone(b), strings.Repeat(c, n)...)
				mustNotDecode(t, fmt.Sprintf("up to %d, with %d more", last, n), long, api.ErrForm)
			}
		}
		mustNotDecode(t, "twice", slices.Concat(b, b), api.ErrForm)
		mustNotDecode(t, "of one byte too many", append(bytes.Clone(b), make([]byte, 65537-len(b))...), api.ErrLong)
		mustNotDecode(t, "of many bytes", append(bytes.Clone(b), make([]byte, 1<<20)...), api.ErrLong)
	}
	mustNotDecode(t, "of noughts", make([]byte, 65536), api.ErrForm)
	mustNotDecode(t, "of too many noughts", make([]byte, 65537), api.ErrLong)
}

// parts is an audit's bytes, thing by thing, so that one can be exchanged.
func parts(a Audit) []string {
	l := []string{textBytes(a.Anchor), numbers(uint64(a.Last)), numbers(uint64(len(a.L)))}
	for _, e := range a.L {
		l = append(l, numbers(uint64(e.Seq)), numbers(uint64(e.Time)), numbers(uint64(e.Kind)), textBytes(e.Path), numbers(uint64(e.Errno)))
	}
	return l
}

func with(l []string, place int, s string) []byte {
	l = slices.Clone(l)
	l[place] = s
	return []byte(strings.Join(l, ""))
}

// small is an audit of two entries whose numbers have one byte each.
func small() Audit {
	return Audit{Anchor: noughts, Last: 2, L: []api.Entry{{Seq: 1, Time: 3, Kind: 4, Path: "a", Errno: 5}, {Seq: 2, Time: 6, Kind: 7, Path: "b", Errno: 8}}}
}

// Each number, and the number ahead of each text, in another form than layer 1's.
func TestDecodeOfNumbersInAnotherForm(t *testing.T) {
	l := parts(small())
	mustDecode(t, "as it is", with(l, 0, l[0]), small())
	for place, s := range l {
		mustNotDecode(t, fmt.Sprintf("a longer form at the part %d", place), with(l, place, string([]byte{s[0] + 128, 0})+s[1:]), api.ErrForm)
		mustNotDecode(t, fmt.Sprintf("a longer form yet at the part %d", place), with(l, place, string([]byte{s[0] + 128, 128, 0})+s[1:]), api.ErrForm)
		mustNotDecode(t, fmt.Sprintf("no number at the part %d", place), with(l, place, strings.Repeat("\xff", 10)), api.ErrForm)
		mustNotDecode(t, fmt.Sprintf("a number above all at the part %d", place), with(l, place, strings.Repeat("\xff", 9)+"\x02"), api.ErrForm)
		mustNotDecode(t, fmt.Sprintf("without the part %d", place), with(l, place, ""), api.ErrForm)
	}
}

func TestDecodeOfWhatMayNotBe(t *testing.T) {
	for what, a := range badAudits() {
		want := api.ErrForm
		if len(plainBytes(a)) > 65536 {
			want = api.ErrLong
		}
		mustNotDecode(t, what, plainBytes(a), want)
	}
}

// Numbers that no field may be, up to the greatest; some of them would be good ones if bits of them were cut off.
func TestDecodeOfGreatNumbers(t *testing.T) {
	l := parts(small())
	for place, s := range l {
		low := uint64(s[0])
		for _, great := range []uint64{1<<41 + low, 1<<48 + low, 1 << 62, 1<<62 + low, math.MaxInt64, 1 << 63, 1<<63 + low, 1<<63 + 1<<32 + low, math.MaxUint64 - 1, math.MaxUint64} {
			mustNotDecode(t, fmt.Sprintf("%d at the part %d", great, place), with(l, place, numbers(great)+s[1:]), api.ErrForm)
		}
		if place%5 == 4 { // a time
			continue
		}
		for _, great := range []uint64{1<<32 + low, 1 << 32, 1<<31 + low, 1<<31 + 1, 256 + low, 1<<16 + low} {
			mustNotDecode(t, fmt.Sprintf("%d at the part %d", great, place), with(l, place, numbers(great)+s[1:]), api.ErrForm)
		}
	}
	mustNotDecode(t, "very many entries", with(l, 2, numbers(1<<40)), api.ErrForm)
}

func TestDecodeOfAnotherCount(t *testing.T) {
	for _, last := range []int{0, 1, 7, 8, 9, 20} {
		a := upTo(last)
		l := parts(a)
		counts := []uint64{1 << 32, 1 << 40, 1 << 62, math.MaxInt64, 1 << 63, math.MaxUint64 - 7, math.MaxUint64}
		for n := range uint64(20) {
			counts = append(counts, n)
		}
		for _, n := range counts {
			if n != uint64(len(a.L)) {
				mustNotDecode(t, fmt.Sprintf("up to %d, said to have %d entries", last, n), with(l, 2, numbers(n)), api.ErrForm)
			}
		}
	}
}

func TestDecodeOfPaths(t *testing.T) {
	a := small()
	for n := range 40 {
		a.L[1].Path = strings.Repeat("\xfe", n)
		if n <= 32 {
			mustDecode(t, fmt.Sprintf("a path of %d bytes", n), plainBytes(a), a)
		} else {
			mustNotDecode(t, fmt.Sprintf("a path of %d bytes", n), plainBytes(a), api.ErrForm)
		}
	}
}

// What is read as an audit is just what Encode writes of it, and nothing panics, whatever the bytes.
func TestDecodeOfAnyBytes(t *testing.T) {
	r := rand.New(rand.NewSource(133))
	l := goodAudits()
	read := 0
	for range 60000 {
		b := mustEncode(t, l[r.Intn(len(l))])
		for range 1 + r.Intn(2) {
			b[r.Intn(len(b))] = byte(r.Intn(256) >> r.Intn(8))
		}
		a, e := Decode(b)
		if e != api.OK {
			mustNotDecode(t, "again", b, api.ErrForm)
			continue
		}
		read++
		must(t, "May of what was read", May(a), true)
		must(t, "the bytes of what was read", string(mustEncode(t, a)), string(b))
	}
	if read < 1000 {
		t.Fatalf("%d are read: too few to tell", read)
	}
}

// Promise 13.4

// The digest goes on by the new entry alone, whatever went.
func TestDigestGoesOn(t *testing.T) {
	for _, start := range []Audit{New(), upTo(0), upTo(5), upTo(8), upTo(100), upTo(api.MaxSeq - 30)} {
		a := start
		for n := range 30 {
			e := goodEntries[n%len(goodEntries)]
			b := mustAdd(t, a, e)
			e.Seq = a.Last + 1
			must(t, fmt.Sprintf("from %d on, the digest of %d more", start.Last, n+1), Digest(b), standard(Digest(a), plainEntry(e)))
			a = b
		}
	}
}

func TestTheExample(t *testing.T) {
	a := mustAdd(t, New(), api.Entry{Time: 3, Kind: 1, Path: "a"})
	must(t, "Last", a.Last, 1)
	must(t, "the digest", Digest(a), standard(noughts, "\x01\x03\x01\x01a\x00"))
}

func TestWhatGoesOnFollows(t *testing.T) {
	r := rand.New(rand.NewSource(134))
	for _, start := range goodAudits() {
		all := []Audit{start}
		for range min(25, api.MaxSeq-start.Last) {
			e := goodEntries[r.Intn(len(goodEntries))]
			all = append(all, mustAdd(t, all[len(all)-1], e))
		}
		for i, a := range all {
			for j, b := range all {
				must(t, fmt.Sprintf("%d follows %d", b.Last, a.Last), Follows(a, b), i <= j)
			}
		}
	}
}

// An audit that goes as bytes goes on as it would have.
func TestAuditsThatGoAsBytes(t *testing.T) {
	a, b := New(), New()
	for _, e := range some(1, 30) {
		a = mustAdd(t, a, e)
		read, errno := Decode(mustEncode(t, mustAdd(t, b, e)))
		must(t, "Decode", errno, api.OK)
		b = read
		mustBe(t, "the one that went as bytes", b, a)
		must(t, "its digest", Digest(b), Digest(a))
	}
}
