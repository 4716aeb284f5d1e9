package chunk

import (
	"fmt"
	"math"
	"math/rand"
	"slices"
	"strings"
	"testing"

	"strongroom/api"
)

// Promise 17.1

func TestMeasuresThatMayBe(t *testing.T) {
	for _, m := range []Measure{{1, 1, 0}, {1, 1, 16}, {1, 1024, 0}, {1, 1024, 16}, {1024, 1024, 0}, {1024, 1024, 16}, {1023, 1024, 1}, {2, 9, 0}, {64, 64, 15}} {
		fresh(t, m)
		mustCut(t, "", m, nil)
		mustCut(t, "a", m, []string{"a"})
	}
}

func TestMeasuresThatMayNotBe(t *testing.T) {
	l := []Measure{{}, {0, 0, 0}, {0, 1, 0}, {0, 1024, 3}, {1, 0, 0}, {-1, 1, 0}, {-2, -1, 0}, {2, 1, 0}, {1024, 1023, 0}, {1, 1025, 0}, {1025, 1025, 0}, {1024, 1025, 5},
		{1, 1, -1}, {1, 1, 17}, {1, 1024, 32}, {1, 1024, 1<<32 + 3}, {1 << 32, 1<<32 + 1, 3}, {1, 1<<32 + 1, 3},
		{math.MinInt, 1, 0}, {math.MinInt, math.MaxInt, 0}, {1, math.MaxInt, 0}, {math.MaxInt, math.MinInt, 0}, {1, 1, math.MinInt}, {1, 1, math.MaxInt}}
	for _, m := range l {
		c, e := New(m)
		if c != nil || e != api.ErrArg {
			t.Errorf("New(%v): %v, %d", m, c, e)
		}
		for _, text := range []string{"", "some text"} {
			got, e := Cut(text, m)
			if len(got) != 0 || e != api.ErrArg {
				t.Errorf("Cut(%q, %v): %q, %d", text, m, got, e)
			}
		}
	}
}

func TestANilCutter(t *testing.T) {
	var c *Cutter
	mustList(t, "Write", c.Write([]byte("abcdef")), nil)
	mustList(t, "Write of none", c.Write(nil), nil)
	must(t, "Left", c.Left(), 0)
	mustEnd(t, "nil", c, "")
}

func TestWriteEndLeft(t *testing.T) {
	c := fresh(t, Measure{Least: 2, Most: 9})
	mustEnd(t, "of nothing", c, "")
	mustList(t, "Write of a", c.Write([]byte("a")), nil)
	must(t, "Left", c.Left(), 1)
	mustList(t, "Write of none", c.Write(nil), nil)
	mustList(t, "Write of no bytes", c.Write([]byte{}), nil)
	must(t, "Left", c.Left(), 1)
	mustList(t, "Write of bcd", c.Write([]byte("bcd")), []string{"ab", "cd"})
	must(t, "Left", c.Left(), 0)
	mustList(t, "Write of e", c.Write([]byte("e")), nil)
	must(t, "Left", c.Left(), 1)
	mustEnd(t, "of abcde", c, "e")
	mustEnd(t, "once more", c, "")
	mustList(t, "Write of fg", c.Write([]byte("fg")), []string{"fg"})
	mustEnd(t, "of fg", c, "")
}

// Behind an End the text begins anew, whether anything was left or not: the window has nothing of the text ahead.
func TestBehindAnEnd(t *testing.T) {
	r := rand.New(rand.NewSource(5))
	m := Measure{Least: 1, Most: 50, Bits: 2}
	left, none := 0, 0
	for range 400 {
		x, y := someText(r, 1+r.Intn(40), 256), someText(r, 15, 256)
		whole, rest := plainWhole(x, m)
		c := fresh(t, m)
		mustList(t, "the text ahead", c.Write([]byte(x)), whole)
		mustEnd(t, "the text ahead", c, rest)
		mustGoOn(t, c, y, m, func(left int) int { return left })
		if anew, on := plainCut(y, m), plainCut(x+y, m)[len(whole):]; rest == "" && !slices.Equal(anew, on) {
			none++
		} else if rest != "" {
			left++
		}
	}
	if left < 50 || none < 50 {
		t.Fatalf("%d texts of which something was left, %d of which nothing was and that tell", left, none)
	}
}

// A Cutter that ends a chunk of the greatest size has room for the next one.
func TestTheGreatestChunks(t *testing.T) {
	for _, m := range []Measure{{1024, 1024, 0}, {1, 1024, 16}, {1024, 1024, 16}} {
		text := strings.Repeat("x", 2500)
		for _, n := range []int{0, 1, 1023, 1024, 1025, 2047, 2048, 2049, 2500} {
			mustCut(t, text[:n], m, plainCut(text[:n], m))
			mustWrite(t, text[:n], m, func(int) int { return 1024 })
		}
	}
	mustCut(t, strings.Repeat("x", 2048), Measure{1, 1024, 16}, []string{strings.Repeat("x", 1024), strings.Repeat("x", 1024)})
}

// Promise 17.2

func TestExamples(t *testing.T) {
	mustCut(t, "abcde", Measure{Least: 2, Most: 9}, []string{"ab", "cd", "e"})
}

// words is the text that is cut below; the sizes were reckoned apart from this program.
const words = "Power fails at any write of a sector: of the writes that weren't flushed any may be there. Each distinct block is kept once, for all tenants; yet no tenant is told, charged or refused anything by which it could see what another one has."

func TestSizesOfKnownChunks(t *testing.T) {
	rows := []struct {
		m    Measure
		want []int
	}{
		{Measure{1, 1024, 3}, []int{17, 2, 6, 13, 1, 6, 27, 2, 3, 25, 1, 13, 10, 11, 9, 7, 4, 3, 1, 1, 1, 6, 2, 11, 5, 2, 13, 6, 7, 5, 8, 8}},
		{Measure{1, 1024, 4}, []int{19, 19, 7, 32, 25, 24, 20, 7, 4, 3, 1, 2, 6, 2, 49, 8, 8}},
		{Measure{4, 12, 2}, []int{6, 11, 5, 5, 9, 9, 4, 5, 9, 9, 5, 10, 8, 7, 10, 4, 6, 4, 4, 7, 7, 9, 4, 4, 7, 7, 6, 6, 12, 9, 5, 6, 5, 4, 7, 1}},
		{Measure{8, 64, 5}, []int{19, 26, 64, 37, 14, 64, 12}},
		{Measure{16, 16, 0}, []int{16, 16, 16, 16, 16, 16, 16, 16, 16, 16, 16, 16, 16, 16, 12}},
		{Measure{1, 1024, 16}, []int{236}},
		{Measure{1, 30, 16}, []int{30, 30, 30, 30, 30, 30, 30, 26}},
		{Measure{10, 40, 1}, []int{10, 10, 10, 10, 10, 11, 11, 10, 10, 10, 10, 10, 10, 12, 10, 10, 11, 10, 10, 10, 10, 10, 10, 1}},
	}
	for _, r := range rows {
		l, e := Cut(words, r.m)
		must(t, "Cut", e, api.OK)
		must(t, "chunks put together", strings.Join(l, ""), words)
		var got []int
		for _, c := range l {
			got = append(got, len(c))
		}
		if !slices.Equal(got, r.want) {
			t.Errorf("sizes by %v: %v, not %v", r.m, got, r.want)
		}
	}
}

// Noughts are a mark at every place, by all bits.
func TestNoughts(t *testing.T) {
	for bits := range 17 {
		mustCut(t, "\x00\x00\x00\x00\x00", Measure{2, 9, bits}, []string{"\x00\x00", "\x00\x00", "\x00"})
	}
	for _, bits := range []int{0, 1, 16, 32, 33} {
		for n := range 20 {
			must(t, fmt.Sprintf("Mark of %d noughts by %d", n, bits), Mark(make([]byte, n), bits), true)
		}
	}
	must(t, "Mark of nil", Mark(nil, 32), true)
}

// edges are windows that are marks by just so many bits, and not by one more; no window is a mark by just 27 to 31.
func edges() map[int][]byte {
	return map[int][]byte{
		26: {255, 88, 0, 0, 0, 0, 0, 0, 0, 13, 254, 255, 255, 255, 167, 0},
		25: {41, 0, 0, 25, 254, 255, 255, 255, 255, 255, 255, 255, 255, 255, 255, 214},
		24: {255, 52, 0, 0, 0, 0, 0, 1, 0, 0, 206, 255, 255, 255, 202, 0},
		23: {35, 0, 0, 0, 219, 255, 255, 255, 255, 255, 255, 254, 255, 255, 255, 220},
		22: {237, 0, 0, 0, 0, 0, 0, 0, 0, 0, 85, 255, 255, 255, 255, 17},
		21: {171, 0, 0, 0, 0, 0, 1, 0, 0, 0, 0, 217, 255, 255, 255, 83},
		20: {255, 255, 255, 129, 15, 255, 255, 255, 255, 255, 255, 254, 126, 0, 0, 0},
		19: {255, 255, 84, 0, 0, 0, 0, 0, 0, 0, 0, 1, 0, 72, 0, 0},
		18: {255, 255, 255, 154, 71, 255, 255, 255, 255, 255, 255, 255, 101, 0, 0, 0},
		17: {255, 255, 255, 18, 0, 0, 0, 0, 0, 0, 0, 1, 58, 0, 0, 0},
		16: {64, 1, 0, 0, 137, 255, 255, 255, 255, 255, 255, 255, 255, 255, 255, 190},
		15: {226, 0, 0, 0, 0, 0, 0, 0, 0, 0, 0, 178, 255, 255, 255, 28},
		14: {131, 0, 0, 0, 0, 0, 0, 0, 0, 0, 0, 0, 149, 255, 254, 124},
		13: {255, 255, 255, 255, 181, 0, 1, 131, 255, 255, 255, 73, 0, 0, 0, 0},
		12: {255, 255, 179, 0, 0, 0, 0, 0, 0, 0, 0, 0, 148, 76, 0, 0},
		11: {144, 0, 0, 0, 0, 1, 0, 0, 0, 12, 255, 255, 255, 255, 255, 110},
		10: {255, 255, 255, 249, 1, 0, 0, 0, 41, 255, 255, 255, 5, 0, 0, 0},
	}
}

func TestMarkAtItsEdges(t *testing.T) {
	for most, window := range edges() {
		for bits := -1; bits <= 33; bits++ {
			must(t, fmt.Sprintf("Mark(%v, %d)", window, bits), Mark(window, bits), bits <= most)
		}
	}
}

// A Cutter's places are marks by the same bits.
func TestMarksOfACutter(t *testing.T) {
	for most, window := range edges() {
		for bits := 10; bits <= 16; bits++ {
			m := Measure{16, 20, bits}
			l, _ := Cut(string(window)+"xyz", m)
			must(t, fmt.Sprintf("%v by %v is cut at its mark", window, m), len(l[0]) == 16, bits <= most)
		}
	}
}

func TestMarkOfAnyBits(t *testing.T) {
	window := edges()[20]
	for _, bits := range []int{math.MinInt, math.MinInt + 32, -1 << 32, -33, -32, -1, 0} {
		must(t, fmt.Sprintf("Mark by %d", bits), Mark(window, bits), true)
	}
	for _, bits := range []int{32, 33, 63, 64, 65, 1 << 32, 1<<32 + 1, math.MaxInt} {
		must(t, fmt.Sprintf("Mark by %d", bits), Mark(window, bits), false)
		must(t, fmt.Sprintf("Mark of noughts by %d", bits), Mark(make([]byte, 16), bits), true)
	}
}

// Of a longer window its last 16 bytes count; a shorter one is what it is.
func TestMarkOfAnyWindow(t *testing.T) {
	r := rand.New(rand.NewSource(2))
	told := 0
	for range 20000 {
		text := someText(r, r.Intn(40), 256)
		bits := r.Intn(6)
		got := Mark([]byte(text), bits)
		must(t, fmt.Sprintf("Mark(%q, %d)", text, bits), got, plainMark(text, len(text), bits))
		if got != (plainSum(text)*2654435761%(1<<32) < 1<<(32-bits)) {
			told++
		}
	}
	if told < 1000 {
		t.Fatal("windows of which all bytes tell otherwise:", told)
	}
	for most, window := range edges() {
		long := append([]byte(strings.Repeat("long ago", 1000)), window...)
		must(t, "Mark of a long window", Mark(long, most), true)
		must(t, "Mark of a long window by one more", Mark(long, most+1), false)
		must(t, "Mark of the 17th byte too", Mark(append(window[:16:16], 1), most), false)
	}
}

// The window goes on behind a cut: bytes of the chunk ahead tell whether a place is a mark.
func TestTheWindowGoesOn(t *testing.T) {
	r := rand.New(rand.NewSource(4))
	m := Measure{Least: 2, Most: 10, Bits: 1}
	others := 0
	for range 200 {
		text := someText(r, 60, 256)
		want := plainCut(text, m)
		mustCut(t, text, m, want)
		if alone := plainCut(text[len(want[0]):], m); !slices.Equal(alone, want[1:]) {
			others++
		}
	}
	if others < 50 {
		t.Fatal("texts of which the chunk ahead tells:", others)
	}
}

// Memory

func TestWhatIsHandedInAndTold(t *testing.T) {
	r := rand.New(rand.NewSource(6))
	m := Measure{Least: 3, Most: 20, Bits: 2}
	for range 100 {
		text := someText(r, 100, 256)
		whole, left := plainWhole(text, m)
		b := []byte(text)
		c := fresh(t, m)
		x := c.Write(b[:50])
		must(t, "what was handed in", string(b), text)
		clear(b[:50])
		y := c.Write(b[50:])
		clear(b)
		kept := slices.Concat(x, y)
		mustList(t, "chunks", kept, whole)
		clear(x)
		clear(y[:cap(y)])
		last, _ := c.End()
		must(t, "the last one", last, left)
		c.Write([]byte(strings.Repeat("other ones ", 40)))
		mustList(t, "chunks behind other ones", kept, whole)
		must(t, "the last one behind other ones", last, left)
	}
	window := edges()[20]
	Mark(window, 20)
	must(t, "a window", string(window), string(edges()[20]))
}

func TestCuttersGoOnByThemselves(t *testing.T) {
	m := Measure{Least: 2, Most: 30, Bits: 3}
	x, y := fresh(t, m), fresh(t, m)
	var a, b []string
	for i := range len(words) {
		a = append(a, x.Write([]byte{words[i]})...)
		b = append(b, y.Write([]byte{words[len(words)-1-i]})...)
	}
	back := []byte(words)
	slices.Reverse(back)
	want, left := plainWhole(words, m)
	mustList(t, "of the text", a, want)
	mustEnd(t, "of the text", x, left)
	want, left = plainWhole(string(back), m)
	mustList(t, "of the text from behind", b, want)
	mustEnd(t, "of the text from behind", y, left)
}
