package roll

import (
	"bytes"
	"math"
	"math/big"
	"math/rand"
	"testing"

	"strongroom/api"
)

// some are n bytes, other ones for each seed.
func some(n int, seed int64) []byte {
	b := make([]byte, n)
	rand.New(rand.NewSource(seed)).Read(b)
	return b
}

// plain is the weak sum as the chapter's words make it, without a number that wraps round.
func plain(b []byte) uint32 {
	x, y := new(big.Int), new(big.Int)
	for i, c := range b {
		x.Add(x, big.NewInt(int64(c)))
		y.Add(y, big.NewInt(int64(c)*int64(len(b)-i)))
	}
	return low(x) + 65536*low(y)
}

// low is n modulo 65536, which isn't below 0.
func low(n *big.Int) uint32 {
	return uint32(new(big.Int).Mod(n, big.NewInt(65536)).Uint64())
}

// times is a product that doesn't wrap round.
func times(x, y int) *big.Int {
	return new(big.Int).Mul(big.NewInt(int64(x)), big.NewInt(int64(y)))
}

// sums are numbers at which halves of sums wrap round, and others.
func sums() []uint32 {
	l := []uint32{0, 1, 254, 255, 256, 65535, 65536, 65537, 655366, 0x7fffffff, 0x80000000, 0xffff0000, 0xffff0001, 0xfffffffe, 0xffffffff}
	r := rand.New(rand.NewSource(1))
	for range 20 {
		l = append(l, r.Uint32())
	}
	return l
}

// counts are sizes that are those of bytes, and all kinds of others.
var counts = []int{0, 1, 2, 3, 16, 128, 255, 256, 1024, 65535, 65536, 65537, 1 << 31, 1<<31 - 1, 1 << 32, 1<<40 + 7, math.MaxInt, math.MaxInt - 1,
	-1, -2, -255, -256, -65535, -65536, -65537, -1 << 31, -1<<31 - 1, -1 << 32, math.MinInt, math.MinInt + 1}

// Promise 4.1

func TestSumOfKnownBytes(t *testing.T) {
	for _, c := range []struct {
		bytes []byte
		want  uint32
	}{
		{nil, 0},
		{[]byte{}, 0},
		{[]byte{0}, 0},
		{make([]byte, 1000), 0},
		{[]byte{1}, 1 + 65536*1},
		{[]byte{255}, 255 + 65536*255},
		{[]byte{1, 2, 3}, 655366},
		{[]byte{3, 2, 1}, 6 + 65536*14},
		{[]byte{0, 1}, 1 + 65536*1},
		{[]byte{1, 0}, 1 + 65536*2},
		{[]byte("abc"), 294 + 65536*586},
	} {
		if got := Sum(c.bytes); got != c.want {
			t.Errorf("Sum(%v) = %d, want %d", c.bytes, got, c.want)
		}
	}
}

func TestSumOfAllLengths(t *testing.T) {
	for n := range 600 {
		if b := some(n, int64(n)); Sum(b) != plain(b) {
			t.Fatalf("%d bytes: %d, want %d", n, Sum(b), plain(b))
		}
	}
}

func TestSumWrapsRound(t *testing.T) {
	for _, n := range []int{22, 23, 256, 257, 258, 65535, 65536, 65537, 300000} {
		b := bytes.Repeat([]byte{255}, n)
		if Sum(b) != plain(b) {
			t.Errorf("%d bytes 255: %d, want %d", n, Sum(b), plain(b))
		}
		b = some(n, int64(n))
		if Sum(b) != plain(b) {
			t.Errorf("%d bytes: %d, want %d", n, Sum(b), plain(b))
		}
	}
}

func TestSumLeavesItsBytesAlone(t *testing.T) {
	b := []byte{1, 2, 3, 4, 5}
	first := Sum(b[:3])
	Sum([]byte{9, 9})
	if Sum(b[:3]) != first || !bytes.Equal(b, []byte{1, 2, 3, 4, 5}) {
		t.Errorf("%v behind its sum", b)
	}
}

func TestNextIsTheSumOneOn(t *testing.T) {
	for _, size := range []int{1, 2, 3, 16, 128, 255, 256, 257, 1024, 65535, 65536, 65537} {
		text := some(size+40, int64(size))
		sum := Sum(text[:size])
		for i := range 40 {
			sum = Next(sum, size, text[i], text[i+size])
			if want := plain(text[i+1 : i+1+size]); sum != want {
				t.Fatalf("size %d, %d on: %d, want %d", size, i+1, sum, want)
			}
		}
	}
}

func TestNextOfGreatAndOfNoBytes(t *testing.T) {
	for _, size := range []int{1, 2, 255, 256, 257, 65536} {
		for _, in := range []byte{0, 1, 128, 255} {
			for _, out := range []byte{0, 1, 128, 255} {
				text := append(bytes.Repeat([]byte{out}, size), in)
				if got, want := Next(Sum(text[:size]), size, out, in), plain(text[1:]); got != want {
					t.Errorf("size %d, %d goes, %d comes: %d, want %d", size, out, in, got, want)
				}
			}
		}
	}
}

func TestNextOfAnyNumbers(t *testing.T) {
	for _, sum := range sums() {
		for _, size := range counts {
			for _, out := range []byte{0, 1, 2, 127, 128, 254, 255} {
				for _, in := range []byte{0, 1, 77, 255} {
					a := big.NewInt(int64(sum%65536) - int64(out) + int64(in))
					b := new(big.Int).Sub(big.NewInt(int64(sum/65536)), times(size, int(out)))
					want := low(a) + 65536*low(b.Add(b, a))
					if got := Next(sum, size, out, in); got != want {
						t.Fatalf("Next(%d, %d, %d, %d) = %d, want %d", sum, size, out, in, got, want)
					}
				}
			}
		}
	}
}

func TestJoinIsTheSumOfBoth(t *testing.T) {
	for _, n := range []int{0, 1, 2, 3, 128, 300, 65536, 70000} {
		for _, m := range []int{0, 1, 2, 3, 128, 257, 65535, 65536, 65537} {
			x, y := some(n, int64(n)), some(m, int64(1000+m))
			if got, want := Join(Sum(x), Sum(y), m), plain(append(x, y...)); got != want {
				t.Errorf("%d and %d bytes: %d, want %d", n, m, got, want)
			}
		}
	}
}

func TestJoinOfKnownBytes(t *testing.T) {
	if got := Join(Sum([]byte{1}), Sum([]byte{2, 3}), 2); got != 655366 {
		t.Errorf("1, and 2, 3: %d", got)
	}
	if got := Join(Sum([]byte{1, 2}), Sum([]byte{3}), 1); got != 655366 {
		t.Errorf("1, 2, and 3: %d", got)
	}
}

func TestJoinOfAnyNumbers(t *testing.T) {
	for _, x := range sums() {
		for _, y := range sums() {
			for _, size := range counts {
				a := big.NewInt(int64(x%65536) + int64(y%65536))
				b := new(big.Int).Add(big.NewInt(int64(x/65536)+int64(y/65536)), times(size, int(x%65536)))
				if got, want := Join(x, y, size), low(a)+65536*low(b); got != want {
					t.Fatalf("Join(%d, %d, %d) = %d, want %d", x, y, size, got, want)
				}
			}
		}
	}
}

func TestJoinOfASizeBelowNought(t *testing.T) {
	// a is 5 in both; to b, which is 10 in both, is added -3 times 5.
	if got := Join(5+65536*10, 5+65536*10, -3); got != 10+65536*5 {
		t.Errorf("a size of -3: %d", got)
	}
	if got := Join(1, 0, -1); got != 1+65536*65535 {
		t.Errorf("a size of -1: %d", got)
	}
}

// Promise 4.2

// window is a new Window that must be there.
func window(t *testing.T, size int) *Window {
	t.Helper()
	w, e := New(size)
	if w == nil || e != api.OK {
		t.Fatalf("New(%d): %v and the error %d", size, w != nil, e)
	}
	return w
}

// has holds a window against the bytes that it should have.
func has(t *testing.T, w *Window, size int, want []byte) {
	t.Helper()
	if got := w.Bytes(); !bytes.Equal(got, want) {
		t.Fatalf("a window of %d has %d bytes that aren't the %d that it should have", size, len(got), len(want))
	}
	sum, full := w.Sum()
	if sum != plain(want) || full != (len(want) == size) {
		t.Fatalf("a window of %d that has %d: %d and %v, want %d", size, len(want), sum, full, plain(want))
	}
}

// last are the last n bytes of b, or all.
func last(b []byte, n int) []byte {
	return b[max(0, len(b)-n):]
}

func TestNewOfAWrongSize(t *testing.T) {
	for _, size := range []int{0, -1, -65536, math.MinInt, 65537, 65536 * 2, 1<<32 + 1, math.MaxInt} {
		if w, e := New(size); w != nil || e != api.ErrArg {
			t.Errorf("New(%d): %v and the error %d", size, w != nil, e)
		}
	}
}

func TestNewHasNoBytes(t *testing.T) {
	for _, size := range []int{1, 2, 16, 65535, 65536} {
		has(t, window(t, size), size, nil)
	}
}

func TestAWindowHasTheLastBytes(t *testing.T) {
	for _, size := range []int{1, 2, 3, 7, 16, 128, 255, 256, 257} {
		w := window(t, size)
		text := some(3*size+5, int64(size))
		for i, c := range text {
			w.Put(c)
			has(t, w, size, last(text[:i+1], size))
		}
	}
}

func TestAWindowOfTheGreatestSize(t *testing.T) {
	for _, size := range []int{65535, 65536} {
		w := window(t, size)
		text := bytes.Repeat([]byte{255}, size)
		text = append(text, some(2*size, 5)...)
		for i, c := range text {
			w.Put(c)
			if at := i + 1; at < 3 || at%size < 2 || at%size == size-1 || at%9973 == 0 {
				has(t, w, size, last(text[:at], size))
			}
		}
	}
}

func TestAWindowTakesNoughts(t *testing.T) {
	w := window(t, 3)
	for _, c := range []byte{0, 0, 7} {
		w.Put(c)
	}
	has(t, w, 3, []byte{0, 0, 7})
	for range 3 {
		w.Put(0)
	}
	has(t, w, 3, []byte{0, 0, 0})
}

func TestClearTakesAllBytesAway(t *testing.T) {
	for _, size := range []int{1, 2, 5, 16} {
		for n := range 3*size + 2 {
			w := window(t, size)
			for _, c := range some(n, 1) {
				w.Put(c)
			}
			w.Clear()
			has(t, w, size, nil)
			w.Clear()
			has(t, w, size, nil)
			text := some(2*size+1, 2)
			for i, c := range text {
				w.Put(c)
				has(t, w, size, last(text[:i+1], size))
			}
		}
	}
}

func TestANilWindow(t *testing.T) {
	var w *Window
	w.Put(1)
	w.Clear()
	if sum, full := w.Sum(); sum != 0 || full {
		t.Errorf("%d and %v", sum, full)
	}
	if len(w.Bytes()) != 0 {
		t.Error("it has bytes")
	}
}

func TestBytesAreNewMemory(t *testing.T) {
	w := window(t, 4)
	text := []byte{1, 2, 3, 4, 5, 6}
	for i, c := range text {
		w.Put(c)
		first, second := w.Bytes(), w.Bytes()
		for k := range first {
			first[k] = 99
		}
		want := last(text[:i+1], 4)
		if !bytes.Equal(second, want) {
			t.Fatal("two answers share memory")
		}
		has(t, w, 4, want)
	}
	kept := w.Bytes()
	w.Put(7)
	w.Clear()
	w.Put(8)
	if !bytes.Equal(kept, []byte{3, 4, 5, 6}) {
		t.Errorf("an answer became %v", kept)
	}
}

func TestTellingChangesNothing(t *testing.T) {
	w := window(t, 3)
	for _, c := range []byte{1, 2, 3, 4} {
		w.Put(c)
		w.Sum()
		w.Bytes()
		w.Sum()
	}
	has(t, w, 3, []byte{2, 3, 4})
}

func TestWindowsAreApart(t *testing.T) {
	x, y := window(t, 2), window(t, 2)
	x.Put(1)
	y.Put(5)
	y.Put(6)
	x.Put(2)
	has(t, x, 2, []byte{1, 2})
	x.Clear()
	has(t, y, 2, []byte{5, 6})
}

// Promise 4.3

func TestAWindowsSumIsTheOneOfItsBytes(t *testing.T) {
	r := rand.New(rand.NewSource(7))
	for _, size := range []int{1, 2, 16, 100, 128} {
		w := window(t, size)
		for range 4000 {
			if r.Intn(300) == 0 {
				w.Clear()
			} else {
				w.Put(byte(r.Intn(256)))
			}
			b := w.Bytes()
			if sum, full := w.Sum(); sum != Sum(b) || full != (len(b) == size) {
				t.Fatalf("a window of %d: %d and %v, of %d bytes with the sum %d", size, sum, full, len(b), Sum(b))
			}
		}
	}
}

func TestSumsAreJoinedInAnyGrouping(t *testing.T) {
	for _, n := range []int{0, 1, 5, 300} {
		for _, m := range []int{0, 1, 128, 70000} {
			for _, k := range []int{0, 1, 77, 65536} {
				x, y, z := some(n, 1), some(m, 2), some(k, 3)
				left := Join(Join(Sum(x), Sum(y), m), Sum(z), k)
				right := Join(Sum(x), Join(Sum(y), Sum(z), k), m+k)
				want := plain(bytes.Join([][]byte{x, y, z}, nil))
				if left != want || right != want {
					t.Errorf("%d, %d, %d bytes: %d and %d, want %d", n, m, k, left, right, want)
				}
			}
		}
	}
}

func TestAnyNumbersAreJoinedInAnyGrouping(t *testing.T) {
	for _, x := range sums() {
		for _, y := range sums() {
			for _, z := range sums() {
				for _, c := range [][2]int{{0, 0}, {3, 4}, {-3, 4}, {65536, 65535}, {-1 << 40, 1<<33 + 5}} {
					left := Join(Join(x, y, c[0]), z, c[1])
					right := Join(x, Join(y, z, c[1]), c[0]+c[1])
					if left != right {
						t.Fatalf("%d, %d, %d by %v: %d and %d", x, y, z, c, left, right)
					}
				}
			}
		}
	}
}

func TestASumIsJoinedOfManyPieces(t *testing.T) {
	text := some(5000, 9)
	for _, step := range []int{1, 2, 3, 128, 999, 5000} {
		var sum uint32
		for at := 0; at < len(text); at += step {
			piece := text[at:min(at+step, len(text))]
			sum = Join(sum, Sum(piece), len(piece))
		}
		if sum != plain(text) {
			t.Errorf("pieces of %d: %d, want %d", step, sum, plain(text))
		}
	}
}
