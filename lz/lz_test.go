package lz

import (
	"bytes"
	"math"
	"math/rand"
	"slices"
	"strings"
	"testing"

	"strongroom/api"
)

// mustPack packs a text, and holds what is packed against all that is promised of it.
func mustPack(t *testing.T, text []byte) []byte {
	t.Helper()
	p, e := Pack(text)
	must(t, "Pack", e, api.OK)
	_, told, right := plainRead(p)
	if !right || told != string(text) {
		t.Fatalf("Pack(%.60q of %d bytes): %.60v, which is right: %t, and tells %d bytes", text, len(text), p, right, len(told))
	}
	if most := len(text) + len(text)/128 + 4; len(p) > most {
		t.Fatalf("Pack(%.60q of %d bytes): %d bytes, more than %d", text, len(text), len(p), most)
	}
	mustUnpack(t, p, len(text), string(text), api.OK)
	mustSize(t, p, len(text), api.OK)
	return p
}

// eachList calls f with every list of up to most of the things of l.
func eachList[T any](l []T, most int, f func([]T)) {
	var walk func(list []T)
	walk = func(list []T) {
		f(list)
		if len(list) == most {
			return
		}
		for _, x := range l {
			walk(append(list[:len(list):len(list)], x))
		}
	}
	walk(nil)
}

// randomBytes is bytes below top.
func randomBytes(r *rand.Rand, many, top int) []byte {
	b := make([]byte, many)
	for i := range b {
		b[i] = byte(r.Intn(top))
	}
	return b
}

// Promise 18.1: Pack

func TestPackOfNextToNothing(t *testing.T) {
	for _, b := range [][]byte{nil, {}} {
		if p := mustPack(t, b); !bytes.Equal(p, []byte{0}) {
			t.Errorf("Pack of none: %v", p)
		}
	}
	for c := range 256 {
		if p := mustPack(t, []byte{byte(c)}); !bytes.Equal(p, []byte{1, 0, byte(c)}) {
			t.Errorf("Pack of %d: %v", c, p)
		}
	}
}

func TestPackEachShortText(t *testing.T) {
	eachList([]byte("ab"), 13, func(b []byte) { mustPack(t, b) })
	eachList([]byte("abc"), 8, func(b []byte) { mustPack(t, b) })
	eachList([]byte{0, 127, 128, 255}, 6, func(b []byte) { mustPack(t, b) })
}

func TestPackLongerTexts(t *testing.T) {
	r := rand.New(rand.NewSource(1))
	for range 3000 {
		mustPack(t, randomBytes(r, r.Intn(700), 1+r.Intn(6)))
		mustPack(t, randomBytes(r, r.Intn(700), 256))
	}
	for range 10 {
		mustPack(t, randomBytes(r, 60000+r.Intn(5537), 1+r.Intn(256)))
	}
}

// Of texts in which nothing comes again all bytes stand for themselves, and that is just as long as it may be.
func TestPackWhatNeverComesAgain(t *testing.T) {
	for size := range 256 {
		b := make([]byte, size)
		for i := range b {
			b[i] = byte(i)
		}
		p := mustPack(t, b)
		if l, _, _ := plainRead(p); len(l) > size {
			t.Errorf("Pack of %d bytes has %d tokens", size, len(l))
		}
	}
	// Bytes that count up by each odd step in turn: next to no three in a row come again.
	var b []byte
	for step := 1; len(b) < 65536; step += 2 {
		for at := range 256 {
			b = append(b, byte(at*step))
		}
	}
	for _, size := range []int{127, 128, 129, 255, 256, 257, 16383, 16384, 16385, 32767, 32768} {
		mustPack(t, b[:size])
	}
}

// Three bytes that come again amid new ones are as long when they are told by a token: each such token would cost a byte.
func TestPackWhereShortBytesComeAgain(t *testing.T) {
	r := rand.New(rand.NewSource(2))
	for _, sizes := range [][]int{{3}, {4}, {3, 4}, {3, 3, 5}, {2, 3}} {
		for gap := range 6 {
			for _, words := range []int{1, 4, 60, 1000} {
				mustPack(t, wordsAmid(r, sizes, gap, words, 20000))
			}
		}
	}
}

// wordsAmid is a text of words that come again, with up to gap other bytes between any two.
func wordsAmid(r *rand.Rand, sizes []int, gap, words, size int) []byte {
	var l [][]byte
	for range words {
		l = append(l, randomBytes(r, sizes[r.Intn(len(sizes))], 256))
	}
	var b []byte
	for len(b) < size {
		b = append(b, l[r.Intn(words)]...)
		b = append(b, randomBytes(r, gap, 256)...)
	}
	return b
}

func TestPackAtTheLimit(t *testing.T) {
	r := rand.New(rand.NewSource(3))
	for _, size := range []int{65534, 65535, 65536} {
		for _, top := range []int{1, 2, 256} {
			mustPack(t, randomBytes(r, size, top))
		}
	}
	for _, size := range []int{65537, 65538, 131072, 1 << 20} {
		p, e := Pack(make([]byte, size))
		if len(p) != 0 || e != api.ErrLong {
			t.Errorf("Pack of %d bytes: %d bytes, %d", size, len(p), e)
		}
	}
}

func TestPackTwice(t *testing.T) {
	r := rand.New(rand.NewSource(4))
	for range 200 {
		b := randomBytes(r, r.Intn(2000), 3)
		if p, q := mustPack(t, b), mustPack(t, b); !bytes.Equal(p, q) {
			t.Fatalf("Pack(%q) is %v, and then %v", b, p, q)
		}
	}
}

// Promise 18.1: Unpack and Size

func TestUnpackTheExample(t *testing.T) {
	b := []byte{6, 1, 'a', 'b', 129, 0, 1}
	mustUnpack(t, b, 6, "ababab", api.OK)
	mustUnpack(t, b, 7, "ababab", api.OK)
	mustUnpack(t, b, math.MaxInt, "ababab", api.OK)
	mustUnpack(t, b, 5, "", api.ErrLong)
	mustUnpack(t, b, 0, "", api.ErrLong)
	mustUnpack(t, b, -1, "", api.ErrLong)
	mustUnpack(t, b, math.MinInt, "", api.ErrLong)
	mustSize(t, b, 6, api.OK)
	mustTokens(t, b, []Token{own("ab"), earlier(2, 4)}, api.OK)
	mustRead(t, b)
}

func TestUnpackNone(t *testing.T) {
	for _, most := range []int{math.MinInt, -1, 0, 1, math.MaxInt} {
		mustUnpack(t, []byte{0}, most, "", api.OK)
		mustUnpack(t, []byte{0, 0, 'a'}, most, "", api.ErrForm)
		mustUnpack(t, nil, most, "", api.ErrForm)
	}
	mustRead(t, []byte{0})
	mustRead(t, nil)
	mustRead(t, []byte{})
}

func TestUnpackTokens(t *testing.T) {
	for _, c := range []struct {
		b    []byte
		want string
	}{
		{[]byte{1, 0, 'x'}, "x"},
		{[]byte{2, 0, 'x', 0, 'y'}, "xy"},
		{[]byte{2, 1, 'x', 'y'}, "xy"},
		{[]byte{4, 0, 'x', 128, 0, 0}, "xxxx"},
		{[]byte{5, 1, 'x', 'y', 128, 0, 0}, "xyyyy"},
		{[]byte{5, 1, 'x', 'y', 128, 0, 1}, "xyxyx"},
		{[]byte{7, 2, 'x', 'y', 'z', 129, 0, 2}, "xyzxyzx"},
		{[]byte{7, 3, 'w', 'x', 'y', 'z', 128, 0, 2}, "wxyzxyz"},
		{[]byte{8, 0, 'x', 128, 0, 0, 0, 'y', 128, 0, 2}, "xxxxyxxy"},
		{[]byte{10, 3, 'w', 'x', 'y', 'z', 128, 0, 3, 128, 0, 6}, "wxyzwxywxy"},
		{append([]byte{131, 1, 0, 'x'}, 255, 0, 0), strings.Repeat("x", 131)},
		{append([]byte{128, 1, 127}, strings.Repeat("y", 128)...), strings.Repeat("y", 128)},
	} {
		mustUnpack(t, c.b, len(c.want), c.want, api.OK)
		mustRead(t, c.b)
	}
}

func TestEachFirstByteOfAToken(t *testing.T) {
	text := strings.Repeat("0123456789", 13)
	for n := range 128 {
		b := append(append(plainBytes(n+1, nil), byte(n)), text[:n+1]...)
		mustUnpack(t, b, n+1, text[:n+1], api.OK)
		mustRead(t, b)
		mustRead(t, b[:len(b)-1])
		mustRead(t, append(b, 'x'))
	}
	for n := 128; n < 256; n++ {
		size := n - 125
		b := append(plainBytes(10+size, []Token{own("0123456789")}), byte(n), 0, 9)
		mustUnpack(t, b, 10+size, "0123456789"+text[:size], api.OK)
		mustRead(t, b)
		for cut := range b {
			mustRead(t, b[:cut])
		}
		mustRead(t, append(b, 'x'))
		b[len(b)-1] = 10 // ahead of the first byte
		mustUnpack(t, b, 65536, "", api.ErrForm)
		mustRead(t, b)
	}
}

func TestUnpackWhatIsNotRight(t *testing.T) {
	for _, b := range [][]byte{
		{128},                           // the number ends too early
		{128, 0, 0, 'a'},                // it has a byte too many
		{129, 128, 4, 0, 'a'},           // it is 65,537
		{255, 255, 255, 0, 'a'},         // no byte ends it as one of the first three, and then 0
		{255, 255, 255, 1, 0, 'a'},      // it has four bytes
		{1},                             // there is no token
		{1, 0},                          // a token ends too early
		{1, 1, 'a'},                     // likewise
		{2, 0, 'a'},                     // fewer bytes than said
		{1, 1, 'a', 'b'},                // more
		{1, 0, 'a', 0, 'b'},             // more, by a token that isn't needed
		{1, 0, 'a', 0},                  // a token that isn't whole behind all
		{1, 0, 'a', 128},                // likewise
		{1, 0, 'a', 128, 0, 0},          // more
		{4, 0, 'a', 128, 0},             // the last byte of d isn't there
		{4, 0, 'a', 128},                // none of them is
		{4, 0, 'a', 128, 0, 1},          // ahead of the first byte
		{4, 0, 'a', 128, 1, 0},          // likewise
		{4, 0, 'a', 128, 255, 255},      // likewise
		{3, 128, 0, 0},                  // likewise, with none there
		{4, 128, 0, 0, 0, 'a'},          // likewise: what comes later isn't there yet
		{5, 0, 'a', 128, 0, 0},          // fewer
		{3, 0, 'a', 128, 0, 0},          // more
		{5, 0, 'a', 129, 0, 0, 0},       // the byte behind all is no whole token
		{6, 1, 'a', 'b', 129, 0, 1, 77}, // likewise
	} {
		mustUnpack(t, b, 65536, "", api.ErrForm)
		mustUnpack(t, b, math.MaxInt, "", api.ErrForm)
		mustTokens(t, b, nil, api.ErrForm)
		mustRead(t, b)
	}
}

// What is behind the number isn't looked at where too many bytes are told.
func TestUnpackTooMany(t *testing.T) {
	for _, behind := range [][]byte{nil, {0}, {128}, {0, 'a'}, {128, 0, 0}, {1, 'a', 'b'}} {
		b := append([]byte{2}, behind...)
		for _, most := range []int{math.MinInt, -2, -1, 0, 1} {
			mustUnpack(t, b, most, "", api.ErrLong)
		}
		mustRead(t, b)
		long := append(plainBytes(65536, nil), behind...)
		mustUnpack(t, long, 65535, "", api.ErrLong)
		mustUnpack(t, long, 65536, "", api.ErrForm)
		mustUnpack(t, long, 65537, "", api.ErrForm)
		mustSize(t, long, 65536, api.OK)
	}
}

func TestSizeOfEachNumber(t *testing.T) {
	for n := 0; n <= 65536; n++ {
		mustSize(t, plainBytes(n, nil), n, api.OK)
	}
	for _, behind := range []string{"", "\x00", "\x80", "\xff\xff", "some more"} {
		mustSize(t, []byte("\x05"+behind), 5, api.OK)
		mustSize(t, []byte("\xac\x02"+behind), 300, api.OK)
		mustSize(t, []byte("\x80\x80\x04"+behind), 65536, api.OK)
		mustSize(t, []byte("\x81\x80\x04"+behind), 0, api.ErrForm)
		mustSize(t, []byte("\x80\x80\x05"+behind), 0, api.ErrForm)
		mustSize(t, []byte("\xff\xff\xff\xff\x0f"+behind), 0, api.ErrForm)
		mustSize(t, []byte("\x80\x80\x80\x80\x10"+behind), 0, api.ErrForm)
		mustSize(t, []byte(strings.Repeat("\xff", 9)+"\x01"+behind), 0, api.ErrForm)
		mustSize(t, []byte(strings.Repeat("\xff", 10)+behind), 0, api.ErrForm)
		mustSize(t, []byte("\x80\x00"+behind), 0, api.ErrForm)
		mustSize(t, []byte("\x85\x80\x00"+behind), 0, api.ErrForm)
	}
	for _, b := range [][]byte{nil, {}, {128}, {255, 255}, {128, 128, 128}} {
		mustSize(t, b, 0, api.ErrForm)
	}
}

func TestReadEachShortBytes(t *testing.T) {
	eachList([]byte{0, 1, 2, 4, 128, 129, 255}, 6, func(b []byte) { mustRead(t, b) })
	eachList([]byte{0, 1, 3, 4, 128}, 7, func(b []byte) { mustRead(t, b) })
}

func TestReadWhatIsChanged(t *testing.T) {
	r := rand.New(rand.NewSource(5))
	for range 30000 {
		b := mustBytes(t, randomTokens(r, 1+r.Intn(8)))
		mustRead(t, b)
		switch at := r.Intn(len(b)); r.Intn(3) {
		case 0:
			mustRead(t, b[:at])
		case 1:
			b[at] = byte(r.Intn(256))
			mustRead(t, b)
		default:
			mustRead(t, slices.Insert(b, at, byte(r.Intn(256))))
		}
	}
}

// randomTokens is tokens that are right.
func randomTokens(r *rand.Rand, many int) []Token {
	var l []Token
	size := 0
	for len(l) < many {
		next := own(string(randomBytes(r, 1+r.Intn(1+r.Intn(128)), 256)))
		if size > 0 && r.Intn(2) == 0 {
			next = earlier(1+r.Intn(size), 3+r.Intn(1+r.Intn(128)))
		}
		l = append(l, next)
		size += len(next.Data) + next.Size
	}
	return l
}

func mustBytes(t *testing.T, l []Token) []byte {
	t.Helper()
	b, e := plainJoin(l)
	must(t, "the plain bytes", e, api.OK)
	return b
}

// Promise 18.2: Tokens and Join

func TestTokensOfNone(t *testing.T) {
	mustTokens(t, []byte{0}, nil, api.OK)
	mustTokens(t, nil, nil, api.ErrForm)
	mustJoin(t, nil, []byte{0}, api.OK)
	mustJoin(t, []Token{}, []byte{0}, api.OK)
}

func TestTokensStayAsTheyAre(t *testing.T) {
	for _, c := range []struct {
		l []Token
		b []byte
	}{
		{[]Token{own("a")}, []byte{1, 0, 'a'}},
		{[]Token{own("a"), own("b")}, []byte{2, 0, 'a', 0, 'b'}},
		{[]Token{own("\x00"), earlier(1, 3), own("\xff")}, []byte{5, 0, 0, 128, 0, 0, 0, 255}},
		{[]Token{own("ab"), earlier(2, 3), earlier(5, 130)}, []byte{135, 1, 1, 'a', 'b', 128, 0, 1, 255, 0, 4}},
	} {
		mustJoin(t, c.l, c.b, api.OK)
		mustTokens(t, c.b, c.l, api.OK)
	}
}

func TestTokensThatCanNotBeTold(t *testing.T) {
	long := strings.Repeat("x", 129)
	for _, bad := range []Token{
		{}, own(long), own(long + long), {Back: 1}, {Size: 3}, earlier(0, 3), earlier(-1, 3), earlier(1, 0), earlier(1, 2), earlier(1, 131), earlier(1, -3),
		earlier(65537, 3), earlier(math.MinInt, 3), earlier(math.MaxInt, 3), earlier(1, math.MinInt), earlier(1, math.MaxInt), earlier(1<<32+1, 3), earlier(1, 1<<32+3),
		{Back: 1, Size: 3, Data: "x"}, {Back: 1, Data: "x"}, {Size: 3, Data: "x"}, {Back: -1, Data: "x"}, {Size: -1, Data: "x"}, {Back: math.MaxInt, Size: math.MaxInt, Data: "x"},
	} {
		for _, l := range [][]Token{
			{bad}, {own("x"), bad}, {bad, own("x")}, append(owns(512, 'x'), bad), append(owns(513, 'x'), bad), append([]Token{bad}, owns(513, 'x')...), append(owns(520, 'x'), bad, own("x")),
		} {
			mustJoin(t, l, nil, api.ErrArg)
		}
	}
}

func TestTokensOfBytesAheadOfTheFirst(t *testing.T) {
	mustJoin(t, []Token{earlier(1, 3)}, nil, api.ErrArg)
	mustJoin(t, []Token{earlier(1, 3), own("abc")}, nil, api.ErrArg)
	for size := 1; size <= 128; size++ {
		data := own(strings.Repeat("q", size))
		mustJoin(t, []Token{data, earlier(size, 3)}, plainBytes(size+3, []Token{data, earlier(size, 3)}), api.OK)
		mustJoin(t, []Token{data, earlier(size+1, 3)}, nil, api.ErrArg)
		mustJoin(t, []Token{data, earlier(size, 130), earlier(size+131, 3)}, nil, api.ErrArg)
		l := []Token{data, earlier(size, 130), earlier(size+130, 3)}
		mustJoin(t, l, plainBytes(size+133, l), api.OK)
	}
}

// mostly is tokens that tell just so many bytes.
func mostly(size int) []Token {
	l := owns(size/128, 'm')
	if size%128 > 0 {
		l = append(l, own(strings.Repeat("n", size%128)))
	}
	return l
}

func TestJoinAtTheLimit(t *testing.T) {
	for _, l := range [][]Token{
		owns(512, 'x'), mostly(65535), mostly(65536), append(mostly(65533), earlier(65533, 3)), append(mostly(65406), earlier(65406, 130)), append(mostly(65532), earlier(1, 3), own("z")),
	} {
		b, e := Join(l)
		must(t, "Join", e, api.OK)
		mustTokens(t, b, l, api.OK)
		mustRead(t, b)
	}
	for _, l := range [][]Token{
		mostly(65537), append(owns(512, 'x'), own("y")), append(mostly(65534), earlier(1, 3)), append(mostly(65535), earlier(65535, 130)), append(mostly(65536), earlier(65536, 3)), append(mostly(70000), earlier(65536, 130)), owns(5000, 'x'),
	} {
		mustJoin(t, l, nil, api.ErrLong)
	}
	mustJoin(t, append(mostly(65535), earlier(65536, 3)), nil, api.ErrArg)
	mustJoin(t, append(mostly(65533), earlier(65534, 3)), nil, api.ErrArg)
	mustJoin(t, append(mostly(70000), earlier(65537, 3)), nil, api.ErrArg)
}

// The bytes of a token that tells as far ahead as one can.
func TestTheFurthestBack(t *testing.T) {
	b := mustBytes(t, append(mostly(65533), earlier(65533, 3)))
	if got := b[len(b)-3:]; !bytes.Equal(got, []byte{128, 255, 252}) {
		t.Fatalf("the last token: %v", got)
	}
	mustRead(t, b)
	b[len(b)-1]++
	mustUnpack(t, b, 65536, "", api.ErrForm)
	mustTokens(t, b, nil, api.ErrForm)
	mustRead(t, plainBytes(65536, append(mostly(65536), earlier(65536, 3))))
	mustRead(t, plainBytes(65537, mostly(65537)))
	mustRead(t, plainBytes(65536, mostly(65537)))
}

func TestJoinEachShortList(t *testing.T) {
	some := []Token{{}, own("a"), own("bc"), own(strings.Repeat("d", 129)), earlier(1, 3), earlier(2, 4), earlier(3, 130), earlier(4, 131), earlier(1, 2), earlier(0, 3), {Back: 1, Size: 3, Data: "e"}}
	eachList(some, 4, func(l []Token) {
		b, e := plainJoin(l)
		mustJoin(t, l, b, e)
	})
}

// Promise 18.3

func TestTokensAreJoinedAndJoinedAreTokens(t *testing.T) {
	r := rand.New(rand.NewSource(6))
	for range 3000 {
		l := randomTokens(r, r.Intn(40))
		b := mustBytes(t, l)
		mustJoin(t, l, b, api.OK)
		mustTokens(t, b, l, api.OK)
	}
}

func TestTokensOfWhatIsPacked(t *testing.T) {
	r := rand.New(rand.NewSource(7))
	for range 1000 {
		p := mustPack(t, randomBytes(r, r.Intn(900), 1+r.Intn(5)))
		l, e := Tokens(p)
		must(t, "Tokens", e, api.OK)
		mustJoin(t, l, p, api.OK)
	}
}

func TestOneByteManyTimes(t *testing.T) {
	try := func(n int, c byte) {
		if p := mustPack(t, bytes.Repeat([]byte{c}, n)); len(p) > 12+n/20 {
			t.Fatalf("Pack of %d times %d: %d bytes, more than %d", n, c, len(p), 12+n/20)
		}
	}
	for n := range 1500 {
		try(n, 'x')
	}
	for n := 1500; n <= 65536; n += 997 {
		try(n, 0)
	}
	for c := range 256 {
		try(300, byte(c))
	}
	try(16383, 1)
	try(16384, 1)
	try(65535, 255)
	try(65536, 255)
}

func TestBytesThatRepeatGetShorter(t *testing.T) {
	r := rand.New(rand.NewSource(8))
	for period := 1; period <= 400; period++ {
		part := randomBytes(r, period, 256)
		for _, times := range []int{2, 3, 20} {
			b := bytes.Repeat(part, times)
			if p := mustPack(t, b); len(b) >= 16 && len(p) >= len(b) {
				t.Errorf("Pack of %d times %d bytes: %d bytes", times, period, len(p))
			}
		}
	}
	// What comes again only far behind is found too.
	part := randomBytes(r, 30000, 256)
	if p := mustPack(t, slices.Concat(part, part)); len(p) > 32000 {
		t.Errorf("Pack of twice 30000 bytes: %d bytes", len(p))
	}
}

// Rules that hold everywhere: memory

func TestWhatIsHandedInStays(t *testing.T) {
	text := bytes.Repeat([]byte("so it goes "), 30)
	keep := bytes.Clone(text)
	p := mustPack(t, text)
	if !bytes.Equal(text, keep) {
		t.Error("Pack changed what it was handed")
	}
	keep = bytes.Clone(p)
	if _, e := Unpack(p, 65536); e != api.OK {
		t.Fatal("Unpack:", e)
	}
	l, _ := Tokens(p)
	list := slices.Clone(l)
	if _, e := Join(l); e != api.OK {
		t.Fatal("Join:", e)
	}
	if !bytes.Equal(p, keep) || !slices.Equal(l, list) {
		t.Error("what was handed in was changed")
	}
}

func TestAnswersShareNothing(t *testing.T) {
	text := []byte("abcabcabcabcdefgh")
	p := mustPack(t, text)
	q := mustPack(t, text)
	l, _ := Tokens(p)
	list := slices.Clone(l)
	for i := range l {
		list[i].Data = strings.Clone(l[i].Data)
	}
	u, _ := Unpack(p, 100)
	v, _ := Unpack(p, 100)
	j, _ := Join(l)
	clear(p)
	clear(text)
	if !bytes.Equal(q, j) || !slices.Equal(l, list) || string(u) != "abcabcabcabcdefgh" {
		t.Error("an answer hangs on what was handed in")
	}
	clear(u)
	if string(v) != "abcabcabcabcdefgh" {
		t.Error("two answers share memory")
	}
	clear(j)
	if !slices.Equal(l, list) {
		t.Error("Join keeps what it was handed")
	}
}

// A capacity that is left behind the bytes is nobody's to be written into, or to be hung on.
func TestRoomBehindWhatIsHandedIn(t *testing.T) {
	whole := []byte{6, 1, 'a', 'b', 129, 0, 1, 9, 9, 9}
	mustUnpack(t, whole[:7], 6, "ababab", api.OK)
	mustUnpack(t, whole[:6], 6, "", api.ErrForm)
	mustTokens(t, whole[:4], nil, api.ErrForm)
	mustSize(t, []byte{128, 1}[:1], 0, api.ErrForm)
	if !bytes.Equal(whole[7:], []byte{9, 9, 9}) {
		t.Error("the room behind was written into")
	}
}
