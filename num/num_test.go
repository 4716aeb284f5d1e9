package num

import (
	"bytes"
	"encoding/binary"
	"math"
	"slices"
	"strings"
	"testing"

	"strongroom/api"
)

// edges are the numbers at which a byte more is needed, and their neighbours.
func edges() []uint64 {
	l := []uint64{0, 1, 2, 300, 65536, math.MaxInt64, math.MaxUint64 - 1, math.MaxUint64}
	for shift := 7; shift < 64; shift += 7 {
		n := uint64(1) << shift
		l = append(l, n-1, n, n+1)
	}
	return l
}

func filled(n int, c byte) []byte { return bytes.Repeat([]byte{c}, n) }

func join(parts ...[]byte) []byte { return bytes.Join(parts, nil) }

// Promise 1.1

func TestSize(t *testing.T) {
	if got := Size(0); got != 1 {
		t.Errorf("Size(0) = %d, want 1", got)
	}
	for k := 1; k <= 9; k++ {
		top := uint64(1)<<(7*k) - 1
		if got := Size(top); got != k {
			t.Errorf("Size(%d) = %d, want %d", top, got, k)
		}
		if got := Size(top + 1); got != k+1 {
			t.Errorf("Size(%d) = %d, want %d", top+1, got, k+1)
		}
	}
	if got := Size(math.MaxUint64); got != 10 {
		t.Errorf("Size of the greatest = %d, want 10", got)
	}
	for _, n := range edges() {
		if got := len(Put(nil, n)); got != Size(n) {
			t.Errorf("Size(%d) = %d, but Put lays %d bytes", n, Size(n), got)
		}
	}
}

func TestPutWritesTheBytes(t *testing.T) {
	for _, c := range []struct {
		n    uint64
		want []byte
	}{
		{0, []byte{0}},
		{1, []byte{1}},
		{127, []byte{127}},
		{128, []byte{128, 1}},
		{255, []byte{255, 1}},
		{300, []byte{172, 2}},
		{16383, []byte{255, 127}},
		{16384, []byte{128, 128, 1}},
		{math.MaxInt64, append(filled(8, 255), 127)},
		{1 << 63, append(filled(9, 128), 1)},
		{math.MaxUint64, append(filled(9, 255), 1)},
	} {
		if got := Put(nil, c.n); !bytes.Equal(got, c.want) {
			t.Errorf("Put(nil, %d) = %v, want %v", c.n, got, c.want)
		}
	}
	for _, n := range edges() {
		if got, want := Put([]byte("ahead"), n), binary.AppendUvarint([]byte("ahead"), n); !bytes.Equal(got, want) {
			t.Errorf("Put(ahead, %d) = %v, want %v", n, got, want)
		}
	}
}

func TestPutTextWritesTheBytes(t *testing.T) {
	for _, c := range []struct {
		b    []byte
		s    string
		want []byte
	}{
		{nil, "", []byte{0}},
		{[]byte{}, "", []byte{0}},
		{nil, "ab", []byte{2, 'a', 'b'}},
		{[]byte{7, 200}, "ab", []byte{7, 200, 2, 'a', 'b'}},
		{nil, "\x00\xff\x80", []byte{3, 0, 255, 128}},
		{nil, "é", []byte{2, 0xc3, 0xa9}},
		{nil, string(filled(127, 'x')), join([]byte{127}, filled(127, 'x'))},
		{nil, string(filled(128, 'x')), join([]byte{128, 1}, filled(128, 'x'))},
		{nil, string(filled(300, 'x')), join([]byte{172, 2}, filled(300, 'x'))},
	} {
		if got := PutText(c.b, c.s); !bytes.Equal(got, c.want) {
			t.Errorf("PutText(%v, %q) = %v, want %v", c.b, c.s, got, c.want)
		}
	}
}

func TestPutListWritesTheBytes(t *testing.T) {
	for _, c := range []struct {
		b    []byte
		l    []string
		want []byte
	}{
		{nil, nil, []byte{0}},
		{nil, []string{}, []byte{0}},
		{nil, []string{""}, []byte{1, 0}},
		{nil, []string{"", ""}, []byte{2, 0, 0}},
		{[]byte{9}, []string{"ab", "", "c"}, []byte{9, 3, 2, 'a', 'b', 0, 1, 'c'}},
		{nil, make([]string, 127), join([]byte{127}, filled(127, 0))},
		{nil, make([]string, 128), join([]byte{128, 1}, filled(128, 0))},
		{nil, []string{string(filled(128, 'x'))}, join([]byte{1, 128, 1}, filled(128, 'x'))},
	} {
		if got := PutList(c.b, c.l); !bytes.Equal(got, c.want) {
			t.Errorf("PutList(%v, %q) = %v, want %v", c.b, c.l, got, c.want)
		}
	}
}

func TestPutAnswersNewMemory(t *testing.T) {
	for _, put := range []func(b []byte) []byte{
		func(b []byte) []byte { return Put(b, 300) },
		func(b []byte) []byte { return PutText(b, "text") },
		func(b []byte) []byte { return PutText(b, "") },
		func(b []byte) []byte { return PutList(b, []string{"a", "b"}) },
		func(b []byte) []byte { return PutList(b, nil) },
	} {
		whole := filled(64, 'r')
		b := whole[:8]
		first, second := put(b), put(b)
		want := bytes.Clone(second)
		for i := range first {
			first[i] = '!'
		}
		if !bytes.Equal(whole, filled(64, 'r')) {
			t.Error("an answer reaches into what was handed in, or into the room behind it")
		}
		if !bytes.Equal(second, want) {
			t.Error("two answers share memory")
		}
	}
}

// Promise 1.2

func TestGet(t *testing.T) {
	for _, c := range []struct {
		what string
		b    []byte
		at   int
		n    uint64
		next int
		e    api.Errno
	}{
		{"nought", []byte{0}, 0, 0, 1, api.OK},
		{"nought with more behind", []byte{0, 0}, 0, 0, 1, api.OK},
		{"one byte's greatest", []byte{127}, 0, 127, 1, api.OK},
		{"two bytes' least", []byte{128, 1}, 0, 128, 2, api.OK},
		{"the document's 300", []byte{172, 2}, 0, 300, 2, api.OK},
		{"amid others", []byte{255, 172, 2, 255}, 1, 300, 3, api.OK},
		{"a noughts' group that isn't the last", []byte{128, 128, 1}, 0, 16384, 3, api.OK},
		{"bit 63", append(filled(9, 128), 1), 0, 1 << 63, 10, api.OK},
		{"nine bytes", append(filled(8, 255), 127), 0, math.MaxInt64, 9, api.OK},
		{"the greatest", append(filled(9, 255), 1), 0, math.MaxUint64, 10, api.OK},

		{"ahead of the bytes", []byte{1}, -1, 0, 0, api.ErrRange},
		{"far ahead", []byte{1}, math.MinInt, 0, 0, api.ErrRange},
		{"behind the bytes", []byte{1}, 2, 0, 0, api.ErrRange},
		{"far behind", []byte{1}, math.MaxInt, 0, 0, api.ErrRange},
		{"behind none", nil, 1, 0, 0, api.ErrRange},

		{"no bytes", nil, 0, 0, 0, api.ErrEnd},
		{"at the end", []byte{1}, 1, 0, 0, api.ErrEnd},
		{"the document's 128", []byte{128}, 0, 0, 0, api.ErrEnd},
		{"nine that go on", filled(9, 255), 0, 0, 0, api.ErrEnd},
		{"nine that go on, amid", filled(12, 255), 3, 0, 0, api.ErrEnd},

		{"the document's 128, 0", []byte{128, 0}, 0, 0, 0, api.ErrForm},
		{"a last byte 0", []byte{255, 255, 0}, 0, 0, 0, api.ErrForm},
		{"a tenth byte 0", append(filled(9, 255), 0), 0, 0, 0, api.ErrForm},
		{"2^64", append(filled(9, 128), 2), 0, 0, 0, api.ErrForm},
		{"above 2^64", append(filled(9, 255), 127), 0, 0, 0, api.ErrForm},
		{"ten that go on", filled(10, 128), 0, 0, 0, api.ErrForm},
		{"ten that go on, and an end", append(filled(10, 128), 1), 0, 0, 0, api.ErrForm},
		{"more than ten that go on", filled(20, 255), 0, 0, 0, api.ErrForm},
	} {
		n, next, e := Get(c.b, c.at)
		if n != c.n || next != c.next || e != c.e {
			t.Errorf("%s: Get(%v, %d) = %d, %d, %d, want %d, %d, %d", c.what, c.b, c.at, n, next, e, c.n, c.next, c.e)
		}
	}
}

// Promise 1.3

func TestGetText(t *testing.T) {
	for _, c := range []struct {
		what string
		b    []byte
		at   int
		most int
		s    string
		next int
		e    api.Errno
	}{
		{"just so long", []byte{2, 'a', 'b'}, 0, 2, "ab", 3, api.OK},
		{"shorter", []byte{2, 'a', 'b', 'c'}, 0, 9, "ab", 3, api.OK},
		{"any length", []byte{2, 'a', 'b'}, 0, math.MaxInt, "ab", 3, api.OK},
		{"amid", []byte{9, 1, 255, 0}, 1, 1, "\xff", 3, api.OK},
		{"empty", []byte{0}, 0, 0, "", 1, api.OK},
		{"empty, most below 0", []byte{0}, 0, -1, "", 1, api.OK},
		{"empty, most far below 0", []byte{0}, 0, math.MinInt, "", 1, api.OK},
		{"two bytes of length", join([]byte{128, 1}, filled(128, 'x')), 0, 128, string(filled(128, 'x')), 130, api.OK},

		{"ahead", []byte{0}, -1, 9, "", 0, api.ErrRange},
		{"behind", []byte{0}, 2, 9, "", 0, api.ErrRange},
		{"at the end", []byte{0}, 1, 9, "", 0, api.ErrEnd},
		{"a number that ends early", []byte{128}, 0, 9, "", 0, api.ErrEnd},
		{"a number of another form", []byte{129, 0, 'a'}, 0, 9, "", 0, api.ErrForm},
		{"form ahead of length", []byte{130, 0, 'a', 'b'}, 0, 1, "", 0, api.ErrForm},

		{"too long", []byte{3, 'a', 'b', 'c'}, 0, 2, "", 0, api.ErrLong},
		{"too long, most 0", []byte{1, 'a'}, 0, 0, "", 0, api.ErrLong},
		{"too long, most below 0", []byte{1, 'a'}, 0, -1, "", 0, api.ErrLong},
		{"too long, most far below 0", []byte{1, 'a'}, 0, math.MinInt, "", 0, api.ErrLong},
		{"length ahead of the end", []byte{3, 'a'}, 0, 2, "", 0, api.ErrLong},
		{"longer than an int", Put(nil, 1<<63), 0, math.MaxInt, "", 0, api.ErrLong},
		{"the greatest length", Put(nil, math.MaxUint64), 0, math.MaxInt, "", 0, api.ErrLong},

		{"one byte too few", []byte{3, 'a', 'b'}, 0, 3, "", 0, api.ErrEnd},
		{"none left", []byte{1}, 0, 3, "", 0, api.ErrEnd},
		{"far too few", append(Put(nil, math.MaxInt64), 'a'), 0, math.MaxInt, "", 0, api.ErrEnd},
	} {
		s, next, e := GetText(c.b, c.at, c.most)
		if s != c.s || next != c.next || e != c.e {
			t.Errorf("%s: GetText(%v, %d, %d) = %q, %d, %d, want %q, %d, %d", c.what, c.b, c.at, c.most, s, next, e, c.s, c.next, c.e)
		}
	}
}

func TestGetList(t *testing.T) {
	for _, c := range []struct {
		what       string
		b          []byte
		at         int
		many, most int
		l          []string
		next       int
		e          api.Errno
	}{
		{"just so many", []byte{2, 1, 'a', 2, 'b', 'c'}, 0, 2, 2, []string{"a", "bc"}, 6, api.OK},
		{"fewer", []byte{1, 0, 9}, 0, 5, 0, []string{""}, 2, api.OK},
		{"any number", []byte{1, 1, 'a'}, 0, math.MaxInt, math.MaxInt, []string{"a"}, 3, api.OK},
		{"amid", []byte{7, 1, 1, 'a', 7}, 1, 1, 1, []string{"a"}, 4, api.OK},
		{"none", []byte{0}, 0, 0, 0, nil, 1, api.OK},
		{"none, the limits below 0", []byte{0, 5}, 0, -1, -1, nil, 1, api.OK},
		{"none, the limits far below 0", []byte{0}, 0, math.MinInt, math.MinInt, nil, 1, api.OK},
		{"empty texts, most below 0", []byte{2, 0, 0}, 0, 2, -3, []string{"", ""}, 3, api.OK},
		{"two bytes of count", join([]byte{128, 1}, filled(128, 0)), 0, 128, 0, make([]string, 128), 130, api.OK},

		{"ahead", []byte{0}, -1, 9, 9, nil, 0, api.ErrRange},
		{"behind", []byte{0}, 2, 9, 9, nil, 0, api.ErrRange},
		{"at the end", []byte{0}, 1, 9, 9, nil, 0, api.ErrEnd},
		{"a count that ends early", []byte{129}, 0, 9, 9, nil, 0, api.ErrEnd},
		{"a count of another form", []byte{129, 0, 0}, 0, 9, 9, nil, 0, api.ErrForm},
		{"form ahead of the count", []byte{129, 0, 0}, 0, 0, 9, nil, 0, api.ErrForm},

		{"too many", []byte{2, 0, 0}, 0, 1, 9, nil, 0, api.ErrLong},
		{"too many, many 0", []byte{1, 0}, 0, 0, 9, nil, 0, api.ErrLong},
		{"too many, many below 0", []byte{1, 0}, 0, -1, 9, nil, 0, api.ErrLong},
		{"the count ahead of a text", []byte{2, 128, 0}, 0, 1, 9, nil, 0, api.ErrLong},
		{"more than an int", Put(nil, math.MaxUint64), 0, math.MaxInt, 9, nil, 0, api.ErrLong},

		{"a text too long", []byte{2, 1, 'a', 2, 'b', 'c'}, 0, 2, 1, nil, 0, api.ErrLong},
		{"a text too long, most below 0", []byte{1, 1, 'a'}, 0, 2, -1, nil, 0, api.ErrLong},
		{"a text that ends early", []byte{2, 1, 'a', 2, 'b'}, 0, 2, 2, nil, 0, api.ErrEnd},
		{"a text that is missing", []byte{2, 1, 'a'}, 0, 2, 2, nil, 0, api.ErrEnd},
		{"a text of another form", []byte{2, 1, 'a', 128, 0}, 0, 2, 2, nil, 0, api.ErrForm},
		{"the first text's error", []byte{3, 128, 0, 9}, 0, 3, 2, nil, 0, api.ErrForm},
		{"the first text's error, another", []byte{3, 9, 128, 0}, 0, 3, 2, nil, 0, api.ErrLong},
		{"far too few texts", append(Put(nil, math.MaxInt64), 0, 0), 0, math.MaxInt, 9, nil, 0, api.ErrEnd},
	} {
		l, next, e := GetList(c.b, c.at, c.many, c.most)
		if !slices.Equal(l, c.l) || next != c.next || e != c.e {
			t.Errorf("%s: GetList(%v, %d, %d, %d) = %q, %d, %d, want %q, %d, %d", c.what, c.b, c.at, c.many, c.most, l, next, e, c.l, c.next, c.e)
		}
	}
}

func TestGetKeepsNothing(t *testing.T) {
	b := PutList(PutText(nil, "text"), []string{"a", "bc"})
	was := bytes.Clone(b)
	s, at, _ := GetText(b, 0, 9)
	l, _, _ := GetList(b, at, 9, 9)
	if !bytes.Equal(b, was) {
		t.Error("what was read is changed")
	}
	for i := range b {
		b[i] = '!'
	}
	if s != "text" || !slices.Equal(l, []string{"a", "bc"}) {
		t.Errorf("what was told shares memory with what was read: %q, %q", s, l)
	}
}

// Promise 1.4

func surroundings() [][]byte {
	return [][]byte{nil, {0}, {128}, {255, 255, 255}, filled(11, 128), []byte("around")}
}

func TestNumbersAreReadAgain(t *testing.T) {
	for _, ahead := range surroundings() {
		for _, behind := range surroundings() {
			for _, n := range edges() {
				written := Put(ahead, n)
				got, next, e := Get(join(written, behind), len(ahead))
				if got != n || next != len(written) || e != api.OK {
					t.Errorf("%d between %v and %v is read as %d, %d, %d", n, ahead, behind, got, next, e)
				}
			}
		}
	}
}

func TestTextsAreReadAgain(t *testing.T) {
	texts := []string{"", "a", "\x00", "\x80\xff", "naïve", strings.Repeat("x", 127), strings.Repeat("y", 128), strings.Repeat("\xff", 20000)}
	for _, ahead := range surroundings() {
		for _, behind := range surroundings() {
			for _, s := range texts {
				written := PutText(ahead, s)
				got, next, e := GetText(join(written, behind), len(ahead), len(s))
				if got != s || next != len(written) || e != api.OK {
					t.Errorf("a text of %d bytes between %v and %v is read as %d bytes, %d, %d", len(s), ahead, behind, len(got), next, e)
				}
			}
			written := PutList(ahead, texts)
			got, next, e := GetList(join(written, behind), len(ahead), len(texts), 20000)
			if !slices.Equal(got, texts) || next != len(written) || e != api.OK {
				t.Errorf("a list between %v and %v is read as %d texts, %d, %d", ahead, behind, len(got), next, e)
			}
		}
	}
}

// checkOneForm holds what Get reads against what Put writes of it.
func checkOneForm(t *testing.T, b []byte, at int) {
	n, next, e := Get(b, at)
	if e == api.OK && !bytes.Equal(b[at:next], Put(nil, n)) {
		t.Fatalf("%v at %d is read as %d, which is written as %v", b, at, n, Put(nil, n))
	}
	if e != api.OK && (n != 0 || next != 0) {
		t.Fatalf("%v at %d: %d, %d beside the error %d", b, at, n, next, e)
	}
}

func TestWhatIsReadIsWhatIsWritten(t *testing.T) {
	for i := range 1 << 24 {
		b := [3]byte{byte(i), byte(i >> 8), byte(i >> 16)}
		checkOneForm(t, b[:], 0)
	}
	for _, c := range []byte{128, 129, 255} {
		for k := range 12 {
			for last := range 256 {
				checkOneForm(t, append(filled(k, c), byte(last)), 0)
			}
		}
	}
}

// P1: all arguments are answered, the oddest too.
func TestOddArguments(t *testing.T) {
	odd := []int{math.MinInt, -2, -1, 0, 1, 2, 3, 9, 10, 11, 12, math.MaxInt - 1, math.MaxInt}
	lists := [][]byte{nil, {}, {0}, {1}, {128}, {3, 1, 'a', 0}, filled(11, 127), filled(11, 128), filled(11, 255), append(filled(9, 255), 1, 1), append(filled(8, 255), 127, 1)}
	for _, b := range lists {
		for _, at := range odd {
			_, _, want := Get(b, at)
			for _, most := range odd {
				if s, next, e := GetText(b, at, most); want != api.OK && e != want || e != api.OK && (s != "" || next != 0) {
					t.Errorf("GetText(%v, %d, %d) = %q, %d, %d; Get's error is %d", b, at, most, s, next, e, want)
				}
				for _, many := range odd {
					if l, next, e := GetList(b, at, many, most); want != api.OK && e != want || e != api.OK && (len(l) != 0 || next != 0) {
						t.Errorf("GetList(%v, %d, %d, %d) = %q, %d, %d; Get's error is %d", b, at, many, most, l, next, e, want)
					}
				}
			}
		}
	}
}
