package sign

import (
	"crypto/hmac"
	"crypto/sha256"
	"fmt"
	"math"
	"math/rand"
	"slices"
	"strings"
	"testing"

	"strongroom/api"
)

// must holds an answer against the one that is asked for.
func must(t *testing.T, what string, got, want any) {
	t.Helper()
	if got != want {
		t.Fatalf("%s: %#v, not %#v", what, got, want)
	}
}

// some is a text of n bytes, another one for each seed.
func some(n int, seed int64) string {
	b := make([]byte, n)
	rand.New(rand.NewSource(seed)).Read(b)
	return string(b)
}

// few is a text of n bytes of two kinds, so that blocks of it come again.
func few(n int, seed int64) string {
	b := make([]byte, n)
	r := rand.New(rand.NewSource(seed))
	for i := range b {
		b[i] = "ab"[r.Intn(2)]
	}
	return string(b)
}

// plain is a block's signature as the words of the chapters make it.
func plain(key, block string) api.Sign {
	var a, b uint64
	for i := range len(block) {
		a += uint64(block[i])
		b += uint64(block[i]) * uint64(len(block)-i)
	}
	h := hmac.New(sha256.New, []byte(key))
	h.Write([]byte(block))
	return api.Sign{Weak: uint32(a%65536 + 65536*(b%65536)), Strong: string(h.Sum(nil)[:16])}
}

func mustBlocks(t *testing.T, text string, size int) []string {
	t.Helper()
	l, e := Blocks(text, size)
	must(t, fmt.Sprintf("Blocks of %d bytes by %d", len(text), size), e, api.OK)
	return l
}

func mustSigns(t *testing.T, key, text string, size int) []api.Sign {
	t.Helper()
	l, e := Signs(key, text, size)
	must(t, fmt.Sprintf("Signs of %d bytes by %d", len(text), size), e, api.OK)
	return l
}

func mustFind(t *testing.T, x *Index, s api.Sign, want int) {
	t.Helper()
	got, ok := x.Find(s)
	must(t, fmt.Sprintf("Find(%#v) finds one", s), ok, true)
	must(t, fmt.Sprintf("Find(%#v)", s), got, want)
}

func mustNotFind(t *testing.T, x *Index, s api.Sign) {
	t.Helper()
	got, ok := x.Find(s)
	must(t, fmt.Sprintf("Find(%#v) finds one", s), ok, false)
	must(t, "the place beside false", got, 0)
}

var (
	keys = []string{"", "k", "\x00", "key", some(63, 1), some(64, 2), some(65, 3), some(1000, 4)}
	bad  = []int{0, -1, -2, -128, 129, 130, 256, 1024, math.MinInt, math.MaxInt, math.MinInt32, math.MaxInt32, 1 << 32, 1<<32 + 1, 1<<32 + 128}
)

// Promise 10.1

// 10.1: a signature whose parts were reckoned elsewhere.
func TestOneOfKnownBlocks(t *testing.T) {
	must(t, "One of nothing by nothing", One("", ""),
		api.Sign{Weak: 0, Strong: "\xb6\x13\x67\x9a\x08\x14\xd9\xec\x77\x2f\x95\xd7\x78\xc3\x5f\xc5"})
	must(t, "One of a known message", One("key", "The quick brown fox jumps over the lazy dog").Strong,
		"\xf7\xbc\x83\xf4\x30\x53\x84\x24\xb1\x32\x98\xe6\xaa\x6f\xb1\x43")
	must(t, "the weak sum", One("k", "\x01\x02\x03").Weak, uint32(655366))
}

// 10.1: blocks of all lengths, those past a block's too, by keys at the edges of a key's block.
func TestOneOfAllLengths(t *testing.T) {
	for i, key := range keys {
		for n := range 140 {
			block := some(n, int64(n+1000*i))
			must(t, fmt.Sprintf("One of %d bytes by a key of %d", n, len(key)), One(key, block), plain(key, block))
		}
	}
	for _, n := range []int{255, 256, 257, 1024, 1025, 65536, 100000} {
		block := some(n, int64(n))
		must(t, fmt.Sprintf("One of %d bytes", n), One("k", block), plain("k", block))
		block = strings.Repeat("\xff", n)
		must(t, fmt.Sprintf("One of %d bytes 255", n), One("k", block), plain("k", block))
	}
}

func TestOneHangsOnKeyAndBlock(t *testing.T) {
	s := One("k", "abc")
	must(t, "the strong part's length", len(s.Strong), 16)
	must(t, "once more", One("k", "abc"), s)
	must(t, "by another key the weak sum", One("l", "abc").Weak, s.Weak)
	if One("l", "abc").Strong == s.Strong || One("k", "abd").Strong == s.Strong || One("ka", "bc").Strong == s.Strong {
		t.Fatal("strong parts of others are the same")
	}
	// "\x01\x01\x01" and "\x00\x03\x00" have the same sums, and are told apart by the strong part alone.
	x, y := One("k", "\x01\x01\x01"), One("k", "\x00\x03\x00")
	must(t, "two of the same weak sum", x.Weak, y.Weak)
	must(t, "they are one", x == y, false)
}

// 10.1: the chapter's example, and others that are short.
func TestBlocksOfKnownTexts(t *testing.T) {
	for _, c := range []struct {
		text string
		size int
		want []string
	}{
		{"abcde", 2, []string{"ab", "cd", "e"}},
		{"abcd", 2, []string{"ab", "cd"}},
		{"abcde", 1, []string{"a", "b", "c", "d", "e"}},
		{"abcde", 4, []string{"abcd", "e"}},
		{"abcde", 5, []string{"abcde"}},
		{"abcde", 6, []string{"abcde"}},
		{"abcde", 128, []string{"abcde"}},
		{"a", 1, []string{"a"}},
		{"\x00\x00\x00", 2, []string{"\x00\x00", "\x00"}},
		{"äöü", 3, []string{"\xc3\xa4\xc3", "\xb6\xc3\xbc"}}, // bytes, not letters
		{"", 1, nil},
		{"", 128, nil},
	} {
		if got := mustBlocks(t, c.text, c.size); !slices.Equal(got, c.want) {
			t.Errorf("Blocks(%q, %d) = %q, want %q", c.text, c.size, got, c.want)
		}
	}
}

// 10.1: each size, with texts that end at a block's edge, and beside it.
func TestBlocksOfAllSizes(t *testing.T) {
	for size := 1; size <= 128; size++ {
		for _, n := range []int{0, 1, size - 1, size, size + 1, 2*size - 1, 2 * size, 2*size + 1, 1022, 1023, 1024} {
			text := some(n, int64(n+size))
			l := mustBlocks(t, text, size)
			must(t, fmt.Sprintf("how many blocks %d bytes have by %d", n, size), len(l), (n+size-1)/size)
			must(t, "all of them", strings.Join(l, ""), text)
			for i, block := range l {
				if i < len(l)-1 && len(block) != size || block == "" || len(block) > size {
					t.Fatalf("block %d of %d, of %d bytes by %d, has %d", i, len(l), n, size, len(block))
				}
			}
		}
	}
}

func TestSignsAreOfBlocks(t *testing.T) {
	for _, size := range []int{1, 2, 3, 7, 16, 63, 64, 127, 128} {
		for _, n := range []int{0, 1, 2, 3, 63, 128, 129, 1023, 1024} {
			for i, key := range keys {
				if n > 200 && i%3 != 0 { // a few keys do for the long ones
					continue
				}
				text := some(n, int64(n+size))
				var want []api.Sign
				for from := 0; from < n; from += size {
					want = append(want, plain(key, text[from:min(n, from+size)]))
				}
				if got := mustSigns(t, key, text, size); !slices.Equal(got, want) {
					t.Fatalf("Signs of %d bytes by %d and a key of %d: %#v, not %#v", n, size, len(key), got, want)
				}
			}
		}
	}
}

func mustRefuse(t *testing.T, text string, size int, want api.Errno) {
	t.Helper()
	what := fmt.Sprintf("of %d bytes by %d", len(text), size)
	blocks, e := Blocks(text, size)
	must(t, "Blocks "+what, e, want)
	must(t, "how many blocks beside it", len(blocks), 0)
	signs, e := Signs("k", text, size)
	must(t, "Signs "+what, e, want)
	must(t, "how many signatures beside it", len(signs), 0)
}

// 10.1: there are no blocks of a size that isn't from 1 to 128, of no text.
func TestSizesThatAreNone(t *testing.T) {
	for _, size := range bad {
		for _, n := range []int{0, 1, 5, 128, 129, 1024} {
			mustRefuse(t, some(n, 1), size, api.ErrRange)
		}
	}
}

// 10.1: a text may have 1024 bytes, whatever the size of its blocks.
func TestTextsTooLong(t *testing.T) {
	for _, size := range []int{1, 2, 127, 128} {
		for _, n := range []int{1025, 1026, 2048, 65536, 1 << 20} {
			mustRefuse(t, strings.Repeat("a", n), size, api.ErrLong)
		}
	}
}

// 10.1: of both errors the size's is told.
func TestErrorsInTheirOrder(t *testing.T) {
	for _, size := range bad {
		mustRefuse(t, strings.Repeat("a", 1025), size, api.ErrRange)
	}
}

// Memory: no two answers share any.
func TestAnswersAreNewMemory(t *testing.T) {
	x, y := mustBlocks(t, "abcde", 2), mustBlocks(t, "abcde", 2)
	x[0] = "zz"
	must(t, "a block of the other answer", y[0], "ab")
	must(t, "a block of a later answer", mustBlocks(t, "abcde", 2)[0], "ab")
	s, u := mustSigns(t, "k", "abcde", 2), mustSigns(t, "k", "abcde", 2)
	s[0] = api.Sign{}
	must(t, "a signature of the other answer", u[0], plain("k", "ab"))
	must(t, "a signature of a later answer", mustSigns(t, "k", "abcde", 2)[0], plain("k", "ab"))
}

// Promise 10.2

// model is what an index has, looked at one by one.
type model []api.Sign

func (m model) find(s api.Sign) (int, bool) {
	for i, x := range m {
		if x == s {
			return i, true
		}
	}
	return 0, false
}

func (m model) weak(n uint32) bool {
	return slices.ContainsFunc(m, func(x api.Sign) bool { return x.Weak == n })
}

// mustBe asks an index for all signatures of a list, and others close to them.
func mustBe(t *testing.T, x *Index, m model, asked []api.Sign) {
	t.Helper()
	must(t, "Len", x.Len(), len(m))
	for _, s := range asked {
		for _, s := range []api.Sign{s, {Weak: s.Weak + 1, Strong: s.Strong}, {Weak: s.Weak, Strong: s.Strong + "x"}, {Weak: s.Weak}, {Strong: s.Strong}} {
			got, ok := x.Find(s)
			want, there := m.find(s)
			must(t, fmt.Sprintf("Find(%#v) finds one", s), ok, there)
			must(t, fmt.Sprintf("Find(%#v)", s), got, want)
			must(t, fmt.Sprintf("Weak(%d)", s.Weak), x.Weak(s.Weak), m.weak(s.Weak))
		}
	}
}

// drawn are n signatures of few kinds, so that most are there more than once.
func drawn(n, weaks, strongs int, r *rand.Rand) []api.Sign {
	l := make([]api.Sign, n)
	for i := range l {
		l[i] = api.Sign{Weak: uint32(r.Intn(weaks)) << 16, Strong: strings.Repeat("s", r.Intn(strongs))}
	}
	return l
}

func TestFindTellsTheLeastPlace(t *testing.T) {
	a, b, c := api.Sign{Weak: 7, Strong: "a"}, api.Sign{Weak: 7, Strong: "b"}, api.Sign{Weak: 8, Strong: "a"}
	x := New([]api.Sign{c, b, a, b, a, c})
	mustFind(t, x, a, 2)
	mustFind(t, x, b, 1)
	mustFind(t, x, c, 0)
	must(t, "Len", x.Len(), 6) // those that are the same count each
	mustFind(t, x, b, 1)       // asking changes nothing
	for _, s := range []api.Sign{{}, {Weak: 7}, {Strong: "a"}, {Weak: 8, Strong: "b"}, {Weak: 9, Strong: "a"}, {Weak: 7, Strong: "ab"}, {Weak: 7, Strong: "A"}} {
		mustNotFind(t, x, s)
	}
	for n, want := range map[uint32]bool{7: true, 8: true, 0: false, 6: false, 9: false, 7 << 16: false, math.MaxUint32: false} {
		must(t, fmt.Sprintf("Weak(%d)", n), x.Weak(n), want)
	}
}

// 10.2: a signature may be the one of all zero values, at the first place or another one.
func TestSignatureOfZeroValues(t *testing.T) {
	x := New([]api.Sign{{}})
	mustFind(t, x, api.Sign{}, 0)
	must(t, "Weak(0)", x.Weak(0), true)
	x = New([]api.Sign{{Weak: 1}, {}})
	mustFind(t, x, api.Sign{}, 1)
	mustFind(t, x, api.Sign{Weak: 1}, 0)
	x = New([]api.Sign{{Weak: math.MaxUint32, Strong: "a"}})
	must(t, "Weak of the greatest", x.Weak(math.MaxUint32), true)
	must(t, "Weak(0)", x.Weak(0), false)
	mustNotFind(t, x, api.Sign{})
}

func TestIndexIsAsTheModel(t *testing.T) {
	r := rand.New(rand.NewSource(1))
	for range 200 {
		l := drawn(r.Intn(40), 1+r.Intn(12), 1+r.Intn(6), r)
		mustBe(t, New(l), l, append(drawn(20, 12, 6, r), l...))
	}
}

// 10.2: an index has the first 1024 of a list alone.
func TestIndexOfLongLists(t *testing.T) {
	r := rand.New(rand.NewSource(2))
	for _, n := range []int{1023, 1024, 1025, 1026, 3000} {
		l := make([]api.Sign, n)
		for i := range l {
			l[i] = api.Sign{Weak: uint32(i), Strong: "s"}
		}
		x := New(l)
		m := model(l[:min(n, 1024)])
		mustBe(t, x, m, l)
		mustFind(t, x, l[min(n, 1024)-1], min(n, 1024)-1)
		l = drawn(n, 300, 30, r)
		mustBe(t, New(l), l[:min(n, 1024)], l)
	}
	l := make([]api.Sign, 1025)
	l[1024] = api.Sign{Weak: 1, Strong: "s"}
	x := New(l)
	mustNotFind(t, x, l[1024])
	must(t, "Weak of the one that isn't in it", x.Weak(1), false)
	must(t, "Len", x.Len(), 1024)
}

// 10.2: all of them may have one weak sum.
func TestIndexOfOneWeakSum(t *testing.T) {
	l := make([]api.Sign, 1024)
	for i := range l {
		l[i] = api.Sign{Weak: 5, Strong: fmt.Sprint(i)}
	}
	x := New(l)
	for i, s := range l {
		mustFind(t, x, s, i)
	}
	mustNotFind(t, x, api.Sign{Weak: 5, Strong: "1024"})
}

func TestIndexOfNothing(t *testing.T) {
	for what, x := range map[string]*Index{"a nil index": nil, "an index of nil": New(nil), "an index of none": New([]api.Sign{})} {
		must(t, "Len of "+what, x.Len(), 0)
		for _, s := range []api.Sign{{}, {Weak: 1}, One("k", ""), One("k", "ab")} {
			mustNotFind(t, x, s)
			must(t, "Weak of "+what, x.Weak(s.Weak), false)
		}
	}
	if New(nil) == nil || New([]api.Sign{}) == nil {
		t.Fatal("an index of none is nil")
	}
}

// Memory: the list is neither changed nor kept.
func TestIndexKeepsNoList(t *testing.T) {
	l := []api.Sign{{Weak: 1, Strong: "a"}, {Weak: 2, Strong: "b"}}
	was := slices.Clone(l)
	x := New(l)
	if !slices.Equal(l, was) {
		t.Fatalf("the list is changed: %#v", l)
	}
	l[0], l[1] = api.Sign{Weak: 3, Strong: "c"}, api.Sign{Weak: 1, Strong: "b"}
	mustBe(t, x, was, append(was, l...))
	mustBe(t, New(l), l, append(was, l...))
	l = make([]api.Sign, 2, 5)
	New(l[:1])
	must(t, "what stands behind the list", l[1], api.Sign{})
}

// 10.2: two indexes have nothing to do with each other.
func TestIndexesAreApart(t *testing.T) {
	x, y := New(mustSigns(t, "k", "abcd", 2)), New(mustSigns(t, "k", "cdef", 2))
	mustFind(t, x, One("k", "cd"), 1)
	mustFind(t, y, One("k", "cd"), 0)
	mustNotFind(t, x, One("k", "ef"))
	mustNotFind(t, y, One("k", "ab"))
}

// Promise 10.3

// 10.3: a block's signature is found in the index of its file's, at the place of the first block with those bytes.
func TestBlocksAreFoundAgain(t *testing.T) {
	for i, key := range keys {
		for _, size := range []int{1, 2, 3, 5, 16, 127, 128} {
			for _, text := range []string{some(1024, int64(i)), few(1024, int64(i)), some(1000, int64(i)), few(77, int64(i)), few(1, 1), strings.Repeat("\x00", 300)} {
				if len(text) > 300 && i%3 != 0 { // a few keys do for the long ones
					continue
				}
				blocks := mustBlocks(t, text, size)
				x := New(mustSigns(t, key, text, size))
				must(t, "Len", x.Len(), len(blocks))
				for _, block := range blocks {
					s := One(key, block)
					mustFind(t, x, s, slices.Index(blocks, block))
					must(t, "Weak", x.Weak(s.Weak), true)
				}
			}
		}
	}
}

// 10.3: what is no block of the file isn't found, though its bytes stand in it.
func TestOthersAreNotFound(t *testing.T) {
	x := New(mustSigns(t, "k", "abcde", 2))
	for _, block := range []string{"", "a", "bc", "de", "abc", "ba", "dc", "E"} {
		mustNotFind(t, x, One("k", block))
	}
	for i, block := range []string{"ab", "cd", "e"} {
		mustFind(t, x, One("k", block), i)
		must(t, "by another key the weak sum is there", x.Weak(One("l", block).Weak), true)
		mustNotFind(t, x, One("l", block)) // these keys' strong parts differ
	}
}
