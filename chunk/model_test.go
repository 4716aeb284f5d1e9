package chunk

import (
	"fmt"
	"math/rand"
	"slices"
	"strings"
	"testing"

	"strongroom/api"
)

// plainSum is the weak sum of some bytes as the words of layer 4 make it. Few bytes' numbers don't wrap round.
func plainSum(b string) uint64 {
	var x, y uint64
	for i := range len(b) {
		x += uint64(b[i])
		y += uint64(b[i]) * uint64(len(b)-i)
	}
	return x%65536 + 65536*(y%65536)
}

// plainMark tells by the chapter's words whether a place of a text is a mark: of 32 bits the highest ones are nought just if the number is below 2 to the power of how many the others are.
func plainMark(text string, place, bits int) bool {
	window := text[max(0, place-16):place]
	return plainSum(window)*2654435761%(1<<32) < 1<<(32-bits)
}

// plainWhole is the chunks of a text that are whole, whatever comes behind it, and what is left.
func plainWhole(text string, m Measure) (whole []string, left string) {
	from := 0
	for place := 1; place <= len(text); place++ {
		size := place - from
		if size == m.Most || size >= m.Least && plainMark(text, place, m.Bits) {
			whole = append(whole, text[from:place])
			from = place
		}
	}
	return whole, text[from:]
}

// plainCut is all chunks of a text.
func plainCut(text string, m Measure) []string {
	whole, left := plainWhole(text, m)
	if left != "" {
		whole = append(whole, left)
	}
	return whole
}

func must[T comparable](t *testing.T, what string, got, want T) {
	t.Helper()
	if got != want {
		t.Fatalf("%s: %v, not %v", what, got, want)
	}
}

func mustList(t *testing.T, what string, got, want []string) {
	t.Helper()
	if !slices.Equal(got, want) {
		t.Fatalf("%s: %q, not %q", what, got, want)
	}
}

func mustCut(t *testing.T, text string, m Measure, want []string) {
	t.Helper()
	l, e := Cut(text, m)
	must(t, fmt.Sprintf("Cut by %v", m), e, api.OK)
	mustList(t, fmt.Sprintf("Cut by %v", m), l, want)
}

func fresh(t *testing.T, m Measure) *Cutter {
	t.Helper()
	c, e := New(m)
	if c == nil || e != api.OK {
		t.Fatalf("New(%v): %v, %d", m, c, e)
	}
	must(t, "Left of a new one", c.Left(), 0)
	return c
}

func mustEnd(t *testing.T, what string, c *Cutter, want string) {
	t.Helper()
	last, ok := c.End()
	if last != want || ok != (want != "") {
		t.Fatalf("%s: End: %q, %v, not %q", what, last, ok, want)
	}
	must(t, what+": Left behind the End", c.Left(), 0)
}

// letters are the bytes of which a text is, and how many of them there are: few letters have their own kinds of windows.
func someText(r *rand.Rand, n, letters int) string {
	b := make([]byte, n)
	for i := range b {
		b[i] = byte(r.Intn(letters))
	}
	return string(b)
}

func someMeasure(r *rand.Rand, most, bits int) Measure {
	m := Measure{Most: 1 + r.Intn(most), Bits: r.Intn(bits + 1)}
	m.Least = 1 + r.Intn(m.Most)
	return m
}

// eachText is every text of up to so many of some bytes.
func eachText(most int, of string, visit func(text string)) {
	var grow func(text string)
	grow = func(text string) {
		visit(text)
		if len(text) == most {
			return
		}
		for i := range len(of) {
			grow(text + of[i:i+1])
		}
	}
	grow("")
}

// Of these bytes, short texts are marks by 0 to 4 bits each.
const sharp = "\x00\x01\x05ac\xff"

func TestSharpBytesHaveAllKindsOfMarks(t *testing.T) {
	seen := [6]int{}
	eachText(4, sharp, func(text string) {
		bits := 0
		for bits < 5 && plainMark(text, len(text), bits+1) {
			bits++
		}
		seen[bits]++
	})
	for bits, n := range seen {
		if n == 0 {
			t.Errorf("no text with just %d bits: %v", bits, seen)
		}
	}
}

// Every short text is cut as the words say, by every small measure, in one piece and byte by byte.
func TestEachShortText(t *testing.T) {
	for most := 1; most <= 4; most++ {
		for least := 1; least <= most; least++ {
			for bits := range 5 {
				m := Measure{least, most, bits}
				eachText(4, sharp, func(text string) {
					mustCut(t, text, m, plainCut(text, m))
					mustWrite(t, text, m, func(int) int { return 1 })
				})
			}
		}
	}
}

// mustWrite writes a text in pieces whose sizes are asked for, and holds what is told behind each of them against the words.
func mustWrite(t *testing.T, text string, m Measure, size func(left int) int) {
	t.Helper()
	c := fresh(t, m)
	mustGoOn(t, c, text, m, size)
}

// mustGoOn is mustWrite with a Cutter that has seen nothing.
func mustGoOn(t *testing.T, c *Cutter, text string, m Measure, size func(left int) int) {
	t.Helper()
	var all []string
	at := 0
	for at < len(text) {
		to := at + min(size(len(text)-at), len(text)-at)
		got := c.Write([]byte(text[at:to]))
		all = append(all, got...)
		whole, left := plainWhole(text[:to], m)
		what := fmt.Sprintf("by %v, written from %d to %d", m, at, to)
		mustList(t, what, all, whole)
		must(t, what+": Left", c.Left(), len(left))
		at = to
	}
	_, left := plainWhole(text, m)
	mustEnd(t, fmt.Sprintf("by %v", m), c, left)
}

// Texts of all kinds are cut as the words say, in whichever pieces they are written, one behind the other by one Cutter.
func TestManyTexts(t *testing.T) {
	for seed := range int64(400) {
		r := rand.New(rand.NewSource(seed))
		m := someMeasure(r, 1<<r.Intn(11), 16>>r.Intn(5))
		c := fresh(t, m)
		for range 3 {
			text := someText(r, r.Intn(1<<r.Intn(12)), 1+r.Intn(1<<r.Intn(9)))
			mustCut(t, text, m, plainCut(text, m))
			most := 1 << r.Intn(9)
			mustGoOn(t, c, text, m, func(int) int { return r.Intn(most + 1) })
		}
	}
}

// Every cutting of a text into two pieces, and into three, is as one piece.
func TestEachCuttingIntoPieces(t *testing.T) {
	r := rand.New(rand.NewSource(7))
	for _, m := range []Measure{{1, 5, 1}, {3, 9, 2}, {1, 1024, 4}, {4, 4, 0}, {2, 40, 3}} {
		text := someText(r, 40, 256)
		for x := range len(text) + 1 {
			for y := x; y <= len(text); y++ {
				sizes := []int{x, y - x, len(text)}
				mustWrite(t, text, m, func(int) int {
					n := sizes[0]
					sizes = sizes[1:]
					return n
				})
			}
		}
	}
}

// Promise 17.4

func TestWhatChunksAre(t *testing.T) {
	for seed := range int64(2000) {
		r := rand.New(rand.NewSource(seed))
		m := someMeasure(r, 1<<r.Intn(11), 16>>r.Intn(5))
		text := someText(r, r.Intn(5000), 1+r.Intn(256))
		l, e := Cut(text, m)
		must(t, "Cut", e, api.OK)
		must(t, "chunks put together", strings.Join(l, ""), text)
		for i, c := range l {
			if len(c) > m.Most || len(c) < 1 || i < len(l)-1 && len(c) < m.Least {
				t.Fatalf("chunk %d of %d by %v has %d bytes", i, len(l), m, len(c))
			}
		}
	}
}

// ends are the places behind a text's chunks.
func ends(l []string) map[int]int {
	out := map[int]int{}
	at := 0
	for i, c := range l {
		at += len(c)
		out[at] = i
	}
	return out
}

// Behind a cut that two texts have, with the same 16 bytes ahead and the same ones behind, all chunks are the same.
func TestTextsThatMeet(t *testing.T) {
	met := 0
	for seed := range int64(3000) {
		r := rand.New(rand.NewSource(seed))
		m := someMeasure(r, 60, 5)
		tail := someText(r, 300, 256)
		x, y := someText(r, r.Intn(200), 256), someText(r, r.Intn(200), 256)
		a, _ := Cut(x+tail, m)
		b, _ := Cut(y+tail, m)
		inA, inB := ends(a), ends(b)
		for at := 16; at < len(tail); at++ {
			i, ok := inA[len(x)+at]
			j, same := inB[len(y)+at]
			if ok && same {
				mustList(t, fmt.Sprintf("seed %d: behind %d of the tail", seed, at), a[i+1:], b[j+1:])
				met++
				break
			}
		}
	}
	if met < 1500 {
		t.Fatal("texts that meet:", met)
	}
}

// A change moves few cuts: of a long text, marked often, all but some chunks stay.
func TestAChangeMovesFewCuts(t *testing.T) {
	r := rand.New(rand.NewSource(3))
	m := Measure{Least: 4, Most: 64, Bits: 3}
	for range 200 {
		text := someText(r, 4000, 256)
		at := r.Intn(len(text))
		a, _ := Cut(text, m)
		b, _ := Cut(text[:at]+"new"+text[at:], m)
		ahead, behind := Common(a, b)
		if moved := len(a) - ahead - behind; moved > 40 {
			t.Fatalf("three bytes at %d: %d of %d chunks are others", at, moved, len(a))
		}
	}
}
