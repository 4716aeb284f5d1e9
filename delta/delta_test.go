package delta

import (
	"bytes"
	"fmt"
	"math"
	"math/rand"
	"slices"
	"strings"
	"testing"

	"strongroom/api"
	"strongroom/sign"
)

// must holds an answer against the one that is asked for.
func must(t *testing.T, what string, got, want any) {
	t.Helper()
	if got != want {
		t.Fatalf("%s: %#v, not %#v", what, got, want)
	}
}

// mustBe holds pieces against those that are asked for; nil and empty are one.
func mustBe(t *testing.T, what string, got, want []api.Piece) {
	t.Helper()
	if !slices.Equal(got, want) {
		t.Fatalf("%s: %#v, not %#v", what, got, want)
	}
}

// some is a text of n bytes, another one for each seed.
func some(n int, seed int64) string {
	b := make([]byte, n)
	rand.New(rand.NewSource(seed)).Read(b)
	return string(b)
}

// few is a text of n bytes of two kinds, so that blocks of it come again.
func few(n int, r *rand.Rand) string {
	b := make([]byte, n)
	for i := range b {
		b[i] = "ab"[r.Intn(2)]
	}
	return string(b)
}

// copied is a piece that is the block n, own one that is bytes.
func copied(n int) api.Piece    { return api.Piece{Copy: true, N: n} }
func own(data string) api.Piece { return api.Piece{Data: data} }
func copies(l ...int) []api.Piece {
	var out []api.Piece
	for _, n := range l {
		out = append(out, copied(n))
	}
	return out
}

// lastOf is how many bytes a basis' last block has.
func lastOf(basis string, size int) int {
	if basis == "" {
		return 0
	}
	return (len(basis)-1)%size + 1
}

func mustSigns(t *testing.T, key, basis string, size int) []api.Sign {
	t.Helper()
	l, e := sign.Signs(key, basis, size)
	must(t, fmt.Sprintf("Signs of %d bytes by %d", len(basis), size), e, api.OK)
	return l
}

func mustMake(t *testing.T, key string, l []api.Sign, size, last int, text string) []api.Piece {
	t.Helper()
	p, e := Make(key, l, size, last, text)
	must(t, fmt.Sprintf("Make of %d bytes by %d signatures of %d, %d", len(text), len(l), size, last), e, api.OK)
	return p
}

// makeOf makes pieces of a text by a basis' own signatures.
func makeOf(t *testing.T, basis string, size int, text string) []api.Piece {
	t.Helper()
	return mustMake(t, "k", mustSigns(t, "k", basis, size), size, lastOf(basis, size), text)
}

func mustPatch(t *testing.T, basis string, size int, l []api.Piece, want string) {
	t.Helper()
	s, e := Patch(basis, size, l)
	must(t, fmt.Sprintf("Patch of %d bytes by %d, %d pieces", len(basis), size, len(l)), e, api.OK)
	must(t, "the text that it makes", s, want)
}

// plain makes pieces byte by byte, as the chapter's words say it.
func plain(key string, l []api.Sign, size, last int, text string) []api.Piece {
	var out []api.Piece
	for text != "" {
		found, gone := -1, 0
		next, rest := sign.One(key, text[:min(size, len(text))]), sign.One(key, text)
		for place, s := range l {
			if len(text) >= size && s == next {
				found, gone = place, size
				break
			}
			if place == len(l)-1 && len(text) == last && s == rest {
				found, gone = place, last
			}
		}
		switch {
		case found >= 0:
			out = append(out, copied(found))
		case len(out) > 0 && !out[len(out)-1].Copy:
			out[len(out)-1].Data += text[:1]
			gone = 1
		default:
			out = append(out, own(text[:1]))
			gone = 1
		}
		text = text[gone:]
	}
	return out
}

// Promise 11.1

// 11.1: the chapter's example, and others that are short.
func TestMakeOfKnownTexts(t *testing.T) {
	for _, c := range []struct {
		basis string
		size  int
		text  string
		want  []api.Piece
	}{
		{"abcd", 2, "cdXab", []api.Piece{copied(1), own("X"), copied(0)}},
		{"abcd", 2, "abcd", copies(0, 1)},
		{"abcd", 2, "", nil},
		{"", 2, "", nil},
		{"", 2, "xyz", []api.Piece{own("xyz")}},
		{"abcd", 2, "xyz", []api.Piece{own("xyz")}},
		{"abcd", 2, "a", []api.Piece{own("a")}},
		{"abcd", 2, "bc", []api.Piece{own("bc")}},
		{"abcd", 2, "abc", []api.Piece{copied(0), own("c")}},
		{"abcd", 2, "XYabZcd", []api.Piece{own("XY"), copied(0), own("Z"), copied(1)}},
		{"abcd", 2, "abXYcdZ", []api.Piece{copied(0), own("XY"), copied(1), own("Z")}},
		{"abcd", 2, "ababab", copies(0, 0, 0)},
		{"ababab", 2, "abab", copies(0, 0)},                                       // the least place
		{"aaa", 1, "aa", copies(0, 0)},                                            // also where the last place has it too
		{"aba", 2, "aab", []api.Piece{own("a"), copied(0)}},                       // a short block but at the end
		{"abcde", 2, "abcde", copies(0, 1, 2)},                                    // the short one at the end
		{"abcde", 2, "e", copies(2)},                                              // and by itself
		{"abcde", 2, "cde", copies(1, 2)},                                         //
		{"abcde", 2, "XYe", []api.Piece{own("XY"), copied(2)}},                    //
		{"abcde", 2, "eab", []api.Piece{own("e"), copied(0)}},                     // nowhere else
		{"abcde", 2, "abeX", []api.Piece{copied(0), own("eX")}},                   //
		{"abcde", 2, "eee", []api.Piece{own("ee"), copied(2)}},                    //
		{"abcdefg", 4, "Xefg", []api.Piece{own("X"), copied(1)}},                  // three bytes are left
		{"abcdefg", 4, "fg", []api.Piece{own("fg")}},                              // but not all of them
		{"abcdefg", 4, "abcdfg", []api.Piece{copied(0), own("fg")}},               //
		{"abc", 4, "abc", copies(0)},                                              // the first block is the last one
		{"abc", 4, "abcabc", []api.Piece{own("abc"), copied(0)}},                  //
		{"abc", 128, "Xabc", []api.Piece{own("X"), copied(0)}},                    //
		{"aaaa", 2, "aaaaa", []api.Piece{copied(0), copied(0), own("a")}},         // from the first byte on
		{"abab", 4, "ababab", []api.Piece{copied(0), own("ab")}},                  // what is copied is gone
		{"abcabd", 3, "abcabdabc", copies(0, 1, 0)},                               //
		{"\x00\x00\x00", 2, "\x00\x00\x00\x00", copies(0, 0)},                     // noughts of two lengths
		{"\x00\x00\x00", 2, "\x00", copies(1)},                                    //
		{"äöü", 3, "öü", []api.Piece{own("\xc3"), copied(1)}},                     // bytes, not letters
		{"abcd", 1, "dcba", copies(3, 2, 1, 0)},                                   //
		{"abcd", 1, "aXb", []api.Piece{copied(0), own("X"), copied(1)}},           //
		{"\x01\x01\x01", 3, "\x00\x03\x00", []api.Piece{own("\x00\x03\x00")}},     // the same weak sum
		{"\x01\x01\x01", 4, "\x00\x03\x00", []api.Piece{own("\x00\x03\x00")}},     // at the end too
		{"\x01\x01\x01\x00\x03\x00", 3, "\x00\x03\x00\x01\x01\x01", copies(1, 0)}, //
	} {
		mustBe(t, fmt.Sprintf("%q of %q by %d", c.text, c.basis, c.size), makeOf(t, c.basis, c.size, c.text), c.want)
	}
}

// 11.1: lists that are no text's signatures are looked at by the same words.
func TestMakeByOtherLists(t *testing.T) {
	of := func(blocks ...string) []api.Sign {
		var l []api.Sign
		for _, b := range blocks {
			l = append(l, sign.One("k", b))
		}
		return l
	}
	// A text's end is held against the last place alone, though another one has its signature.
	mustBe(t, "two short ones", mustMake(t, "k", of("x", "x"), 2, 1, "abx"), []api.Piece{own("ab"), copied(1)})
	mustBe(t, "a short one ahead", mustMake(t, "k", of("x", "ab"), 2, 1, "abx"), []api.Piece{copied(1), own("x")})
	// A window is held against all places, the last one too, whatever that one's bytes are.
	mustBe(t, "a whole one at last", mustMake(t, "k", of("cd", "ab"), 2, 1, "Xab"), []api.Piece{own("X"), copied(1)})
	// What is shorter or longer than the size, and not the last, is never met.
	mustBe(t, "a long one", mustMake(t, "k", of("abc", "z"), 2, 1, "abcabc"), []api.Piece{own("abcabc")})
	mustBe(t, "the last one of another length", mustMake(t, "k", of("abc"), 4, 2, "abc"), []api.Piece{own("abc")})
	// Both parts of a signature count.
	l := of("ab")
	l[0].Weak++
	mustBe(t, "another weak sum", mustMake(t, "k", l, 2, 2, "ab"), []api.Piece{own("ab")})
	l = of("e")
	l[0].Weak++
	mustBe(t, "another weak sum at the end", mustMake(t, "k", l, 2, 1, "e"), []api.Piece{own("e")})
	l = of("ab")
	l[0].Strong = l[0].Strong[:15]
	mustBe(t, "a strong part that is cut", mustMake(t, "k", l, 2, 2, "ab"), []api.Piece{own("ab")})
}

func TestMakeHangsOnKey(t *testing.T) {
	l := mustSigns(t, "k", "abcde", 2)
	mustBe(t, "by its key", mustMake(t, "k", l, 2, 1, "abcde"), copies(0, 1, 2))
	mustBe(t, "by another key", mustMake(t, "l", l, 2, 1, "abcde"), []api.Piece{own("abcde")})
	mustBe(t, "by no key", mustMake(t, "", l, 2, 1, "abcde"), []api.Piece{own("abcde")})
	mustBe(t, "signed by no key", mustMake(t, "", mustSigns(t, "", "abcde", 2), 2, 1, "cde"), copies(1, 2))
}

// 11.1: texts of a basis that are changed here and there, by each size, as the words say it.
func TestMakeAgainstWords(t *testing.T) {
	r := rand.New(rand.NewSource(11))
	for size := 1; size <= 128; size++ {
		for range 6 {
			basis := few(r.Intn(4*size+2), r)
			if r.Intn(3) == 0 {
				basis = some(r.Intn(min(5*size, 300)), r.Int63())
			}
			text := changed(basis, r)
			l := mustSigns(t, "k", basis, size)
			last := lastOf(basis, size)
			mustBe(t, fmt.Sprintf("%q of %q by %d", text, basis, size),
				mustMake(t, "k", l, size, last, text), plain("k", l, size, last, text))
		}
	}
}

// 11.1: all short texts of all short bases.
func TestMakeOfAllShortTexts(t *testing.T) {
	var texts []string
	for n := range 6 {
		for bits := range 1 << n {
			b := make([]byte, n)
			for i := range b {
				b[i] = "ab"[bits>>i&1]
			}
			texts = append(texts, string(b))
		}
	}
	for size := 1; size <= 3; size++ {
		for _, basis := range texts {
			l := mustSigns(t, "k", basis, size)
			last := lastOf(basis, size)
			for _, text := range texts {
				p := mustMake(t, "k", l, size, last, text)
				mustBe(t, fmt.Sprintf("%q of %q by %d", text, basis, size), p, plain("k", l, size, last, text))
				must(t, "Check", Check(p), api.OK)
				mustPatch(t, basis, size, p, text)
			}
		}
	}
}

// 11.1: lists of signatures in any order, with any last from 1 to size.
func TestMakeByMixedListsAgainstWords(t *testing.T) {
	r := rand.New(rand.NewSource(12))
	for range 2000 {
		size := 1 + r.Intn(4)
		var l []api.Sign
		for range 1 + r.Intn(5) {
			l = append(l, sign.One("k", few(1+r.Intn(4), r)))
		}
		last, text := 1+r.Intn(size), few(r.Intn(12), r)
		mustBe(t, fmt.Sprintf("%q by %d, %d", text, size, last),
			mustMake(t, "k", l, size, last, text), plain("k", l, size, last, text))
	}
}

// 11.1: the longest texts and lists that may be.
func TestMakeAtItsLimits(t *testing.T) {
	for _, size := range []int{1, 2, 127, 128} {
		basis := some(1024, int64(size))
		l := mustSigns(t, "k", basis, size)
		for _, text := range []string{basis, basis[1:], basis[:1023], "X" + basis[:1023], some(1024, 9), strings.Repeat("\x00", 1024)} {
			last := lastOf(basis, size)
			mustBe(t, fmt.Sprintf("%d bytes by %d", len(text), size),
				mustMake(t, "k", l, size, last, text), plain("k", l, size, last, text))
		}
	}
	l := make([]api.Sign, 1024)
	l[1022], l[1023] = sign.One("k", "ab"), sign.One("k", "c")
	mustBe(t, "by 1024", mustMake(t, "k", l, 2, 1, "abXc"), []api.Piece{copied(1022), own("X"), copied(1023)})
	p := mustMake(t, "k", mustSigns(t, "k", "a", 1), 1, 1, strings.Repeat("a", 1024))
	must(t, "how many pieces there are at most", len(p), 1024)
	must(t, "they may be", Check(p), api.OK)
}

func mustNotMake(t *testing.T, l []api.Sign, size, last int, text string, want api.Errno) {
	t.Helper()
	p, e := Make("k", l, size, last, text)
	must(t, fmt.Sprintf("Make of %d bytes by %d signatures of %d, %d", len(text), len(l), size, last), e, want)
	must(t, "how many pieces beside it", len(p), 0)
}

// 11.1: ErrRange of sizes and lasts, ahead of ErrLong.
func TestMakeRefusesSizes(t *testing.T) {
	long := strings.Repeat("x", 1025)
	one := mustSigns(t, "k", "a", 1)
	for _, l := range [][]api.Sign{nil, {}, one, make([]api.Sign, 1024), make([]api.Sign, 1025)} {
		for _, text := range []string{"", "a", long} {
			for _, size := range []int{0, -1, -128, 129, 130, 256, math.MinInt, math.MaxInt, 1 << 32, 1<<32 + 1} {
				for _, last := range []int{0, 1, size, -1} {
					mustNotMake(t, l, size, last, text, api.ErrRange)
				}
			}
			for _, size := range []int{1, 2, 127, 128} {
				for _, last := range []int{-1, -size, size + 1, 129, math.MinInt, math.MaxInt, 1 << 32, 1<<32 + 1} {
					mustNotMake(t, l, size, last, text, api.ErrRange)
				}
				for last := range size + 1 {
					if (last == 0) != (len(l) == 0) {
						mustNotMake(t, l, size, last, text, api.ErrRange)
					}
				}
			}
		}
	}
}

// 11.1: each size and last that may be is taken.
func TestMakeTakesSizes(t *testing.T) {
	l := make([]api.Sign, 1)
	for size := 1; size <= 128; size++ {
		mustBe(t, "by no list", mustMake(t, "k", nil, size, 0, "ab"), []api.Piece{own("ab")})
		mustBe(t, "by an empty list", mustMake(t, "k", []api.Sign{}, size, 0, "ab"), []api.Piece{own("ab")})
		for last := 1; last <= size; last++ {
			text := strings.Repeat("z", last)
			l[0] = sign.One("k", text)
			mustBe(t, "by one", mustMake(t, "k", l, size, last, text), copies(0))
		}
	}
}

// 11.1: ErrLong of texts and of lists.
func TestMakeRefusesWhatIsLong(t *testing.T) {
	for _, n := range []int{1025, 1026, 2048, 65536} {
		text := strings.Repeat("x", n)
		mustNotMake(t, nil, 2, 0, text, api.ErrLong)
		mustNotMake(t, make([]api.Sign, 1), 2, 1, text, api.ErrLong)
		mustNotMake(t, make([]api.Sign, n), 2, 1, "", api.ErrLong)
		mustNotMake(t, make([]api.Sign, n), 2, 2, "ab", api.ErrLong)
		mustNotMake(t, make([]api.Sign, n), 128, 1, text, api.ErrLong)
	}
}

// 11.1: what is handed in isn't changed, what is told is new.
func TestMakeKeepsNothing(t *testing.T) {
	l := mustSigns(t, "k", "abcde", 2)
	same := slices.Clone(l)
	p := mustMake(t, "k", l, 2, 1, "cdXe")
	must(t, "the list is as it was", slices.Equal(l, same), true)
	want := slices.Clone(p)
	q := mustMake(t, "k", l, 2, 1, "cdXe")
	for i := range p {
		p[i] = own("changed")
	}
	clear(l)
	mustBe(t, "another answer", q, want)
	mustBe(t, "the next one", mustMake(t, "k", same, 2, 1, "cdXe"), want)
}

// Promise 11.2

// good are pieces that may be, bad such that may not.
func good() [][]api.Piece {
	return [][]api.Piece{
		nil,
		{},
		{copied(0)},
		{copied(1), copied(1), copied(0)},
		{copied(math.MaxInt)},
		{own("x")},
		{own("\x00")},
		{own(strings.Repeat("x", 70000))},
		{own("x"), copied(0), own("x")},
		{copied(3), own("xy"), copied(2), copied(1), own("z")},
		slices.Repeat([]api.Piece{copied(7)}, 1024),
		slices.Repeat([]api.Piece{own("ab"), copied(7)}, 512),
	}
}

func bad() [][]api.Piece {
	return [][]api.Piece{
		{{}},
		{{Copy: true, N: -1}},
		{{Copy: true, N: math.MinInt}},
		{{Copy: true, Data: "x"}},
		{{Copy: true, N: 1, Data: "x"}},
		{{N: 1, Data: "x"}},
		{{N: -1, Data: "x"}},
		{{N: 1}},
		{{N: -1}},
		{own("x"), own("y")},
		{copied(0), own("x"), own("y"), copied(0)},
		{own("x"), copied(0), own("y"), own("z")},
		{copied(0), {}},
		{{}, copied(0)},
		{own("x"), copied(0), {Copy: true, N: -1}},
		slices.Repeat([]api.Piece{copied(0)}, 1025),
		slices.Repeat([]api.Piece{copied(0), own("x")}, 513),
		append(slices.Repeat([]api.Piece{copied(0)}, 1023), api.Piece{}),
	}
}

func TestCheck(t *testing.T) {
	for _, l := range good() {
		same := slices.Clone(l)
		if e := Check(l); e != api.OK {
			t.Errorf("Check of %d that may be: %d", len(l), e)
		}
		mustBe(t, "the list is as it was", l, same)
	}
	for i, l := range bad() {
		if e := Check(l); e != api.ErrArg {
			t.Errorf("Check of %d that may not be (the list %d): %d", len(l), i, e)
		}
	}
}

func TestPatchOfKnownPieces(t *testing.T) {
	for _, c := range []struct {
		basis string
		size  int
		l     []api.Piece
		want  string
	}{
		{"abcd", 2, []api.Piece{copied(1), own("X"), copied(0)}, "cdXab"},
		{"abcd", 2, nil, ""},
		{"", 1, nil, ""},
		{"", 128, []api.Piece{}, ""},
		{"", 2, []api.Piece{own("xyz")}, "xyz"},
		{"abcde", 2, copies(2, 0, 2, 1), "eabecd"}, // the short one, anywhere
		{"abcde", 2, copies(2, 2), "ee"},
		{"abcde", 128, copies(0, 0), "abcdeabcde"},
		{"abcde", 5, copies(0), "abcde"},
		{"abcde", 1, copies(4, 3, 0), "eda"},
		{"äöü", 3, []api.Piece{own("\x00"), copied(1)}, "\x00\xb6\xc3\xbc"},
	} {
		mustPatch(t, c.basis, c.size, c.l, c.want)
	}
}

func mustNotPatch(t *testing.T, basis string, size int, l []api.Piece, want api.Errno) {
	t.Helper()
	s, e := Patch(basis, size, l)
	must(t, fmt.Sprintf("Patch of %d bytes by %d, %d pieces", len(basis), size, len(l)), e, want)
	must(t, "the text beside it", s, "")
}

var wrongSizes = []int{0, -1, -2, -128, 129, 130, 256, 1024, math.MinInt, math.MaxInt, 1 << 32, 1<<32 + 1}

// 11.2: pieces that may not be are ErrArg, ahead of all else.
func TestPatchRefusesPieces(t *testing.T) {
	long := strings.Repeat("x", 1025)
	for _, l := range bad() {
		mustNotPatch(t, "abcd", 2, l, api.ErrArg)
		mustNotPatch(t, "", 1, l, api.ErrArg)
		mustNotPatch(t, long, 2, l, api.ErrArg)
		for _, size := range wrongSizes {
			mustNotPatch(t, "abcd", size, l, api.ErrArg)
			mustNotPatch(t, long, size, l, api.ErrArg)
		}
	}
	mustNotPatch(t, "ab", 2, []api.Piece{copied(1), own(long), {}}, api.ErrArg)
}

// 11.2: sizes of which there are no blocks, and blocks that the basis hasn't, are ErrRange, ahead of what is too long.
func TestPatchRefusesBlocks(t *testing.T) {
	long := strings.Repeat("x", 1025)
	for _, size := range wrongSizes {
		for _, basis := range []string{"", "abcd", long} {
			for _, l := range [][]api.Piece{nil, {copied(0)}, {own("x")}, {own(long)}} {
				mustNotPatch(t, basis, size, l, api.ErrRange)
			}
		}
	}
	for size := 1; size <= 128; size++ {
		for _, n := range []int{0, 1, size - 1, size, size + 1, 2 * size, 2*size + 1, 1023, 1024, 1025, 1200, 70000} {
			basis := some(n, 1)
			count := (n + size - 1) / size
			for _, wrong := range []int{count, count + 1, n + size, math.MaxInt32, math.MaxInt - 1, math.MaxInt, max(count, math.MaxInt/size), max(count, 1<<33/size), 1 << 32} {
				mustNotPatch(t, basis, size, []api.Piece{copied(wrong)}, api.ErrRange)
				mustNotPatch(t, basis, size, []api.Piece{own("x"), copied(wrong)}, api.ErrRange)
				mustNotPatch(t, basis, size, []api.Piece{copied(wrong), own(long)}, api.ErrRange)
				mustNotPatch(t, basis, size, []api.Piece{own(long), copied(wrong)}, api.ErrRange)
			}
			if n > 0 && n <= 1024 {
				mustPatch(t, basis, size, copies(count-1), basis[(count-1)*size:])
			}
		}
	}
}

// 11.2: a basis, and what is made, of 1024 bytes and of more.
func TestPatchRefusesWhatIsLong(t *testing.T) {
	most := some(1024, 2)
	mustPatch(t, most, 128, copies(0, 1, 2, 3, 4, 5, 6, 7), most)
	mustPatch(t, most, 128, []api.Piece{own("x")}, "x")
	mustPatch(t, "", 1, []api.Piece{own(most)}, most)
	mustPatch(t, "abc", 2, []api.Piece{own(most[:1023]), copied(1)}, most[:1023]+"c")
	mustPatch(t, "a", 1, copies(make([]int, 1024)...), strings.Repeat("a", 1024))
	for _, n := range []int{1025, 1026, 1280, 65536, 1 << 20} {
		long := some(n, 3)
		mustNotPatch(t, long, 128, nil, api.ErrLong)
		mustNotPatch(t, long, 128, copies(0), api.ErrLong)
		mustNotPatch(t, long, 128, copies(8), api.ErrLong)
		mustNotPatch(t, "abc", 2, []api.Piece{own(long)}, api.ErrLong)
		mustNotPatch(t, long, 1, []api.Piece{own(long)}, api.ErrLong)
	}
	mustNotPatch(t, "abc", 2, []api.Piece{own(most[:1023]), copied(0)}, api.ErrLong)
	mustNotPatch(t, "abc", 2, []api.Piece{own(most), copied(1)}, api.ErrLong)
	mustNotPatch(t, "abc", 2, []api.Piece{copied(1), own(most)}, api.ErrLong)
	mustNotPatch(t, most, 128, copies(0, 1, 2, 3, 4, 5, 6, 7, 0), api.ErrLong)
	mustNotPatch(t, "ab", 2, copies(make([]int, 513)...), api.ErrLong)
	mustNotPatch(t, most, 128, copies(make([]int, 1024)...), api.ErrLong)
}

func TestPatchChangesNothing(t *testing.T) {
	l := []api.Piece{copied(1), own("X"), copied(0)}
	same := slices.Clone(l)
	mustPatch(t, "abcd", 2, l, "cdXab")
	mustBe(t, "the pieces are as they were", l, same)
	mustPatch(t, "abcd", 2, l, "cdXab")
}

func TestCost(t *testing.T) {
	must(t, "of none", Cost(nil), 0)
	must(t, "of an empty list", Cost([]api.Piece{}), 0)
	must(t, "of blocks", Cost(copies(0, 5, 100)), 0)
	must(t, "of bytes", Cost([]api.Piece{own("abc")}), 3)
	must(t, "of letters", Cost([]api.Piece{own("äö")}), 4)
	must(t, "of both", Cost([]api.Piece{own("ab"), copied(9), own("c"), copied(1)}), 3)
	must(t, "of 1024", Cost(slices.Repeat([]api.Piece{own("ab"), copied(7)}, 512)), 1024)
	must(t, "of more than may be", Cost(slices.Repeat([]api.Piece{own("ab")}, 2000)), 4000)
	must(t, "of the example", Cost(makeOf(t, "abcd", 2, "cdXab")), 1)
}

// Promise 11.3

func mustEncode(t *testing.T, l []api.Piece) []byte {
	t.Helper()
	b, e := Encode(l)
	must(t, fmt.Sprintf("Encode of %d", len(l)), e, api.OK)
	return b
}

func mustNotDecode(t *testing.T, b []byte, want api.Errno) {
	t.Helper()
	l, e := Decode(b)
	must(t, fmt.Sprintf("Decode of %d bytes, %.40q", len(b), b), e, want)
	must(t, "how many pieces beside it", len(l), 0)
}

func TestBytesOfKnownPieces(t *testing.T) {
	for _, c := range []struct {
		l    []api.Piece
		want string
	}{
		{nil, "\x00"},
		{[]api.Piece{copied(1), own("X"), copied(0)}, "\x03\x03\x02X\x01"},
		{[]api.Piece{own("abc")}, "\x01\x06abc"},
		{[]api.Piece{own("\x00")}, "\x01\x02\x00"},
		{copies(0), "\x01\x01"},
		{copies(63), "\x01\x7f"},
		{copies(64), "\x01\x81\x01"},
		{copies(150), "\x01\xad\x02"},
		{copies(math.MaxInt), "\x01\xff\xff\xff\xff\xff\xff\xff\xff\xff\x01"},
		{[]api.Piece{own(strings.Repeat("x", 63))}, "\x01\x7e" + strings.Repeat("x", 63)},
		{[]api.Piece{own(strings.Repeat("x", 64))}, "\x01\x80\x01" + strings.Repeat("x", 64)},
		{copies(make([]int, 1024)...), "\x80\x08" + strings.Repeat("\x01", 1024)},
	} {
		must(t, fmt.Sprintf("Encode of %d", len(c.l)), string(mustEncode(t, c.l)), c.want)
		l, e := Decode([]byte(c.want))
		must(t, fmt.Sprintf("Decode of %.40q", c.want), e, api.OK)
		mustBe(t, fmt.Sprintf("Decode of %.40q", c.want), l, c.l)
	}
}

func TestEncodeRefuses(t *testing.T) {
	for _, l := range bad() {
		b, e := Encode(l)
		must(t, fmt.Sprintf("Encode of %d that may not be", len(l)), e, api.ErrArg)
		must(t, "how many bytes beside it", len(b), 0)
	}
}

// 11.3: what is written is read again, if it isn't too long to be read.
func TestPiecesAreReadAgain(t *testing.T) {
	for _, l := range good() {
		b := mustEncode(t, l)
		if len(b) > 65536 {
			mustNotDecode(t, b, api.ErrLong)
			continue
		}
		got, e := Decode(b)
		must(t, fmt.Sprintf("Decode of %d pieces", len(l)), e, api.OK)
		mustBe(t, "what is read", got, l)
	}
	r := rand.New(rand.NewSource(13))
	for range 500 {
		l := anyPieces(r)
		got, e := Decode(mustEncode(t, l))
		must(t, fmt.Sprintf("Decode of %d pieces", len(l)), e, api.OK)
		mustBe(t, "what is read", got, l)
	}
}

// anyPieces are pieces that may be.
func anyPieces(r *rand.Rand) []api.Piece {
	var l []api.Piece
	for range r.Intn(20) {
		if r.Intn(2) == 0 && (len(l) == 0 || l[len(l)-1].Copy) {
			l = append(l, own(some(1+r.Intn(200), r.Int63())))
		} else {
			l = append(l, copied(int(r.Uint64()>>(1+r.Intn(63)))))
		}
	}
	return l
}

// 11.3: more than 65,536 bytes are ErrLong, whatever they are; so many are read.
func TestDecodeAtItsLimit(t *testing.T) {
	most := strings.Repeat("x", 65536-4) // one byte tells how many, three the length
	b := mustEncode(t, []api.Piece{own(most)})
	must(t, "the bytes' length", len(b), 65536)
	l, e := Decode(b)
	must(t, "Decode of 65,536 bytes", e, api.OK)
	mustBe(t, "what is read", l, []api.Piece{own(most)})

	b = mustEncode(t, []api.Piece{own(most + "x")})
	must(t, "the bytes' length", len(b), 65537)
	mustNotDecode(t, b, api.ErrLong)
	mustNotDecode(t, make([]byte, 65537), api.ErrLong)
	mustNotDecode(t, make([]byte, 65536), api.ErrForm)
	mustNotDecode(t, bytes.Repeat([]byte{0xff}, 65537), api.ErrLong)
	mustNotDecode(t, bytes.Repeat([]byte{0xff}, 1<<20), api.ErrLong)
}

// 11.3: bytes that are those of no pieces.
func TestDecodeRefuses(t *testing.T) {
	for _, s := range []string{
		"",
		"\x80",                   // the count has no end
		"\x80\x00",               // or another form
		"\x00\x00",               // bytes behind it
		"\x00\x01",               //
		"\x01\x01\x01",           //
		"\x01",                   // a piece that isn't there
		"\x02\x01",               //
		"\x01\x81",               // a piece's number has no end
		"\x01\x81\x00",           // or another form
		"\x01\x83\x80\x00",       //
		"\x01\x00",               // bytes that are none
		"\x02\x01\x00",           //
		"\x02\x00\x01",           //
		"\x01\x02",               // fewer bytes than it tells
		"\x01\x04x",              //
		"\x02\x02x\x04x",         //
		"\x02\x02x\x02y",         // two of bytes side by side
		"\x04\x01\x02x\x02y\x01", //
		"\x01\xff\xff\xff\xff\xff\xff\xff\xff\xff\x02",           // above 2^64 - 1
		"\x01\xff\xff\xff\xff\xff\xff\xff\xff\xff\xff\x01",       //
		"\x01\xfe\xff\xff\xff\xff\xff\xff\xff\xff\x01x",          // bytes, 2^63 - 1 of them
		"\x01\x80\x80\x80\x80\x80\x80\x80\x80\x80\x01x",          // 2^62 of them
		"\x01\x80\x80\x80\x80\x20x",                              // 2^32 of them
		"\xff\xff\xff\xff\xff\xff\xff\xff\xff\x01\x01",           // a count of 2^64 - 1
		"\x80\x80\x80\x80\x80\x80\x80\x80\x80\x01",               // of 2^63
		"\x80\x80\x80\x80\x10" + strings.Repeat("\x01", 100),     // of 2^32
		"\x81\x08" + strings.Repeat("\x01", 1025),                // of 1025
		"\x81\x08" + strings.Repeat("\x01", 1024),                //
		"\x80\x08" + strings.Repeat("\x01", 1023),                // one too few
		"\x80\x08" + strings.Repeat("\x01", 1025),                // one too many
		"\x80\x08" + strings.Repeat("\x01", 1022) + "\x02x\x02y", //
	} {
		mustNotDecode(t, []byte(s), api.ErrForm)
	}
	mustNotDecode(t, nil, api.ErrForm)
}

// 11.3: bytes that are cut, or have more behind them, are no pieces'.
func TestDecodeOfCutBytes(t *testing.T) {
	b := mustEncode(t, []api.Piece{copied(300), own("abc"), copied(0), copied(5), own(strings.Repeat("z", 100))})
	for n := range b {
		mustNotDecode(t, b[:n], api.ErrForm)
	}
	for c := range 256 {
		mustNotDecode(t, append(slices.Clone(b), byte(c)), api.ErrForm)
	}
}

// 11.3: whatever is read is written again as the same bytes; and it is what may be.
func TestWhatIsReadIsWrittenAgain(t *testing.T) {
	r := rand.New(rand.NewSource(14))
	read := 0
	for range 200000 {
		b := make([]byte, r.Intn(9))
		for i := range b {
			b[i] = byte(r.Intn(5))
			if r.Intn(6) == 0 {
				b[i] += 128
			}
		}
		same := slices.Clone(b)
		l, e := Decode(b)
		must(t, "the bytes are as they were", bytes.Equal(b, same), true)
		if e == api.ErrForm {
			must(t, "how many pieces beside it", len(l), 0)
			continue
		}
		read++
		must(t, fmt.Sprintf("Decode of %q", b), e, api.OK)
		must(t, "Check", Check(l), api.OK)
		must(t, "the bytes", string(mustEncode(t, l)), string(b))
	}
	if read < 1000 {
		t.Fatalf("only %d were read", read)
	}
}

// 11.3: answers share no memory with what was handed in, nor with each other.
func TestBytesAreNew(t *testing.T) {
	l := []api.Piece{copied(1), own("XYZ"), copied(0)}
	same := slices.Clone(l)
	b, c := mustEncode(t, l), mustEncode(t, l)
	mustBe(t, "the pieces are as they were", l, same)
	p, _ := Decode(b)
	q, _ := Decode(b)
	clear(b)
	clear(p[:1])
	mustBe(t, "pieces of bytes that changed", q, same)
	mustBe(t, "and the others", p[1:], same[1:])
	must(t, "another answer's bytes", string(c), "\x03\x03\x06XYZ\x01")
}

// Promise 11.4

// changed is a text with a few of its bytes taken away, put in, or moved.
func changed(text string, r *rand.Rand) string {
	for range r.Intn(5) {
		at := r.Intn(len(text) + 1)
		end := at + r.Intn(len(text)-at+1)
		switch r.Intn(5) {
		case 0:
			text = text[:at] + few(1+r.Intn(5), r) + text[at:]
		case 1:
			text = text[:at] + text[end:]
		case 2:
			text = text[at:] + text[:at]
		case 3:
			text = text[:at] + text[at:end] + text[at:]
		case 4:
			text = text[:at] + "X" + text[end:]
		}
	}
	return text[:min(len(text), 1024)]
}

// 11.4: pieces of a text make it again of the basis, on the way through their bytes too.
func TestTextsAreMadeAgain(t *testing.T) {
	r := rand.New(rand.NewSource(15))
	for range 400 {
		size := []int{1, 2, 3, 5, 16, 64, 127, 128}[r.Intn(8)]
		basis := some(r.Intn(1025), r.Int63())
		if r.Intn(2) == 0 {
			basis = few(r.Intn(200), r)
		}
		text := changed(basis, r)
		p := makeOf(t, basis, size, text)
		must(t, "Check", Check(p), api.OK)
		mustPatch(t, basis, size, p, text)
		q, e := Decode(mustEncode(t, p))
		must(t, "Decode", e, api.OK)
		mustPatch(t, basis, size, q, text)
	}
}

// 11.4: of the basis itself nothing but blocks is left.
func TestOfTheBasisBlocksAreLeft(t *testing.T) {
	r := rand.New(rand.NewSource(16))
	for size := 1; size <= 128; size++ {
		for _, n := range []int{0, 1, size - 1, size, size + 1, 2 * size, 2*size + 1, 3*size - 1, 1023, 1024} {
			n = min(n, 1024)
			for _, basis := range []string{some(n, int64(size)), few(n, r), strings.Repeat("\x00", n)} {
				p := makeOf(t, basis, size, basis)
				must(t, fmt.Sprintf("how many pieces %d bytes by %d have", n, size), len(p), (n+size-1)/size)
				must(t, "Cost", Cost(p), 0)
				for _, one := range p {
					must(t, "Copy", one.Copy, true)
				}
				mustPatch(t, basis, size, p, basis)
			}
		}
	}
}
