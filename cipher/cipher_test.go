package cipher

import (
	"bytes"
	"crypto/sha256"
	"encoding/hex"
	"fmt"
	"math"
	"math/rand"
	"strings"
	"testing"

	"strongroom/api"
)

const (
	key1      = "\x00\x01\x02\x03\x04\x05\x06\x07\x08\x09\x0a\x0b\x0c\x0d\x0e\x0f\x10\x11\x12\x13\x14\x15\x16\x17\x18\x19\x1a\x1b\x1c\x1d\x1e\x1f"
	nonce1    = "\x00\x00\x00\x09\x00\x00\x00\x4a\x00\x00\x00\x00"
	nonce2    = "\x00\x00\x00\x00\x00\x00\x00\x4a\x00\x00\x00\x00"
	nonce3    = "twelve bytes"
	sunscreen = "Ladies and Gentlemen of the class of '99: If I could offer you only one tip for the future, sunscreen would be it."
)

// wrongKeys and wrongNonces have another number of bytes than they should.
var (
	wrongKeys   = []string{"", "k", key1[:31], key1 + "k", key1 + key1, strings.Repeat("é", 32), nonce1}
	wrongNonces = []string{"", "n", nonce1[:11], nonce1 + "n", nonce1 + nonce1, strings.Repeat("é", 12), key1}
)

// bytesOf is the bytes that a text of hexadecimal digits tells.
func bytesOf(t *testing.T, digits string) string {
	t.Helper()
	b, err := hex.DecodeString(strings.ReplaceAll(digits, " ", ""))
	if err != nil {
		t.Fatal(err)
	}
	return string(b)
}

func digestOf(text string) string { return fmt.Sprintf("%x", sha256.Sum256([]byte(text))) }

// Promise 19.1: Quarter

func mustQuarter(t *testing.T, w [4]uint32) {
	t.Helper()
	l := []plainWord{plainOf(w[0]), plainOf(w[1]), plainOf(w[2]), plainOf(w[3])}
	plainQuarter(l, 0, 1, 2, 3)
	want := [4]uint32{l[0].number(), l[1].number(), l[2].number(), l[3].number()}
	if got := Quarter(w); got != want {
		t.Fatalf("Quarter(%08x): %08x, not %08x", w, got, want)
	}
}

func TestQuarterThatIsKnown(t *testing.T) {
	got := Quarter([4]uint32{0x11111111, 0x01020304, 0x9b8d6f43, 0x01234567})
	if want := [4]uint32{0xea2a92f4, 0xcb1cf8ce, 0x4581472e, 0x5881c4bb}; got != want {
		t.Errorf("Quarter: %08x, not %08x", got, want)
	}
	if got := Quarter([4]uint32{}); got != [4]uint32{} {
		t.Errorf("Quarter of noughts: %08x", got)
	}
}

func TestQuarterOfEdges(t *testing.T) {
	edges := []uint32{0, 1, 1 << 15, 1 << 16, 1 << 31, math.MaxInt32, math.MaxUint32}
	for _, a := range edges {
		for _, b := range edges {
			for _, c := range edges {
				for _, d := range edges {
					mustQuarter(t, [4]uint32{a, b, c, d})
				}
			}
		}
	}
	for word := range 4 {
		for bit := range 32 {
			var w [4]uint32
			w[word] = 1 << bit
			mustQuarter(t, w)
		}
	}
}

func TestQuarterOfRandomWords(t *testing.T) {
	r := rand.New(rand.NewSource(191))
	for range 5000 {
		w := [4]uint32{r.Uint32(), r.Uint32(), r.Uint32(), r.Uint32()}
		was := w
		mustQuarter(t, w)
		if w != was {
			t.Fatalf("Quarter changed %08x to %08x", was, w)
		}
	}
}

// Promise 19.1: Block

func TestBlocksThatAreKnown(t *testing.T) {
	down := ""
	for i := range 32 {
		down += string([]byte{byte(255 - i)})
	}
	for _, c := range []struct {
		key, nonce string
		n          uint32
		want       string
	}{
		{key1, nonce1, 0, "8adc91fd9ff4f0f51b0fad50ff15d637e40efda206cc52c783a74200503c1582cd9833367d0a54d57d3c9e998f490ee69ca34c1ff9e939a75584c52d690a35d4"},
		{key1, nonce1, 1, "10f1e7e4d13b5915500fdd1fa32071c4c7d1f4c733c068030422aa9ac3d46c4ed2826446079faa0914c2d705d98b02a2b5129cd1de164eb9cbd083e8a2503c4e"},
		{key1, nonce1, math.MaxUint32, "ff2941b8d740f6cbb50936bf997ebd5218cb108dc53f41c64841d0218167430ca03b770ca74ccb642a28194d1dedd2ed13151e25ec5d7faeb6d060bfb7e6b146"},
		{down, nonce3, 0x01020304, "434878143001375e94f7262a12c40261e2f3d08a69280a8679eaf6b6943f8ff0af02400dbcacd241b244f96134997628ba9628556b62dc797c103f44a73d5d01"},
	} {
		got, e := Block(c.key, c.nonce, c.n)
		mustTell(t, fmt.Sprintf("Block of the number %d", c.n), got, e, bytesOf(t, c.want), api.OK)
	}
}

func TestBlocksAgainstTheModel(t *testing.T) {
	r := rand.New(rand.NewSource(192))
	for range 200 {
		key, nonce, n := randomText(r, 32), randomText(r, 12), r.Uint32()
		got, e := Block(key, nonce, n)
		mustTell(t, "Block", got, e, plainBlock(key, nonce, n), api.OK)
	}
	for bit := range 32 {
		got, e := Block(key1, nonce1, 1<<bit)
		mustTell(t, "Block", got, e, plainBlock(key1, nonce1, 1<<bit), api.OK)
	}
}

func TestEachByteTellsInABlock(t *testing.T) {
	seen := map[string]bool{}
	for i := range 32 {
		for _, x := range []byte{0x80, 0x40, 1} {
			key := []byte(key1)
			key[i] ^= x
			b, e := Block(string(key), nonce1, 7)
			mustTell(t, "Block", b, e, plainBlock(string(key), nonce1, 7), api.OK)
			seen[b] = true
		}
	}
	for i := range 12 {
		for _, x := range []byte{0x80, 0x40, 1} {
			nonce := []byte(nonce1)
			nonce[i] ^= x
			b, e := Block(key1, string(nonce), 7)
			mustTell(t, "Block", b, e, plainBlock(key1, string(nonce), 7), api.OK)
			seen[b] = true
		}
	}
	if len(seen) != (32+12)*3 {
		t.Errorf("%d blocks of %d keys and nonces", len(seen), (32+12)*3)
	}
}

func TestBlockOfWrongKeysAndNonces(t *testing.T) {
	for _, key := range wrongKeys {
		b, e := Block(key, nonce1, 1)
		mustTell(t, fmt.Sprintf("Block by a key of %d bytes", len(key)), b, e, "", api.ErrArg)
	}
	for _, nonce := range wrongNonces {
		b, e := Block(key1, nonce, 1)
		mustTell(t, fmt.Sprintf("Block by a nonce of %d bytes", len(nonce)), b, e, "", api.ErrArg)
	}
	for _, edge := range []uint32{0, math.MaxUint32} {
		b, e := Block(nonce1, key1, edge)
		mustTell(t, "Block of a key and a nonce that changed places", b, e, "", api.ErrArg)
	}
	wide := strings.Repeat("é", 16)
	b, e := Block(wide, wide[:12], 1)
	mustTell(t, "Block of letters of two bytes", b, e, plainBlock(wide, wide[:12], 1), api.OK)
}

// Promise 19.1: Hide

func mustHide(t *testing.T, key, nonce, text string) {
	t.Helper()
	got, e := Hide(key, nonce, text)
	mustTell(t, fmt.Sprintf("Hide of %d bytes", len(text)), got, e, plainHide(key, nonce, text), api.OK)
}

func TestHideThatIsKnown(t *testing.T) {
	want := bytesOf(t, "6e2e359a2568f98041ba0728dd0d6981e97e7aec1d4360c20a27afccfd9fae0bf91b65c5524733ab8f593dabcd62b357"+
		"1639d624e65152ab8f530c359f0861d807ca0dbf500d6a6156a38e088a22b65e52bc514d16ccf806818ce91ab7793736"+
		"5af90bbf74a35be6b40b8eedf2785e42874d")
	got, e := Hide(key1, nonce2, sunscreen)
	mustTell(t, "Hide", got, e, want, api.OK)
	got, e = Hide(key1, nonce2, want)
	mustTell(t, "Hide of what is hidden", got, e, sunscreen, api.OK)
	got, e = Hide(key1, nonce2, "")
	mustTell(t, "Hide of none", got, e, "", api.OK)
}

func TestHideOfShortTexts(t *testing.T) {
	r := rand.New(rand.NewSource(193))
	for size := range 260 {
		mustHide(t, randomText(r, 32), randomText(r, 12), randomText(r, size))
	}
	for size := range 5 {
		mustHide(t, key1, nonce1, strings.Repeat("\x00", size))
		mustHide(t, key1, nonce1, strings.Repeat("\xff", size))
	}
}

func TestHideAtTheLimit(t *testing.T) {
	longest := strings.Repeat("\x00", api.MaxBytes)
	got, e := Hide(key1, nonce2, longest)
	must(t, "Hide of 65,536 bytes", e, api.OK)
	if len(got) != 65536 || digestOf(got) != "da74a2a998d09814a665f01b1634c7c35802ce18a045b4b912077abf35caa4c6" {
		t.Errorf("Hide of 65,536 bytes: %d bytes, %.20x ..", len(got), got)
	}
	got, e = Hide(key1, nonce2, longest+"\x00")
	mustTell(t, "Hide of 65,537 bytes", got, e, "", api.ErrLong)
	got, e = Hide(key1, nonce2, longest+longest)
	mustTell(t, "Hide of 131,072 bytes", got, e, "", api.ErrLong)
}

func TestHideOfWrongKeysAndNonces(t *testing.T) {
	tooLong := strings.Repeat("a", api.MaxBytes+1)
	for _, text := range []string{"", "text", tooLong} {
		for _, key := range wrongKeys {
			got, e := Hide(key, nonce1, text)
			mustTell(t, fmt.Sprintf("Hide by a key of %d bytes", len(key)), got, e, "", api.ErrArg)
		}
		for _, nonce := range wrongNonces {
			got, e := Hide(key1, nonce, text)
			mustTell(t, fmt.Sprintf("Hide by a nonce of %d bytes", len(nonce)), got, e, "", api.ErrArg)
		}
	}
}

// Promise 19.2: New, Next

func mustNew(t *testing.T, key, nonce string) *Stream {
	t.Helper()
	s, e := New(key, nonce)
	must(t, "New", e, api.OK)
	if s == nil {
		t.Fatal("New: OK, and no Stream")
	}
	return s
}

func TestNewOfWrongKeysAndNonces(t *testing.T) {
	for _, key := range wrongKeys {
		if s, e := New(key, nonce1); s != nil || e != api.ErrArg {
			t.Errorf("New by a key of %d bytes: %v, %v", len(key), s, e)
		}
	}
	for _, nonce := range wrongNonces {
		if s, e := New(key1, nonce); s != nil || e != api.ErrArg {
			t.Errorf("New by a nonce of %d bytes: %v, %v", len(nonce), s, e)
		}
	}
}

func TestStreamIsTheBlocksFromTheFirstOn(t *testing.T) {
	s := mustNew(t, key1, nonce1)
	for n := uint32(1); n < 300; n++ {
		want, e := Block(key1, nonce1, n)
		must(t, "Block", e, api.OK)
		if got := s.Next(make([]byte, 64)); string(got) != want {
			t.Fatalf("block %d of the stream: %x, not %x", n, got, want)
		}
	}
}

func TestStreamOfMoreThanHideTakes(t *testing.T) {
	r := rand.New(rand.NewSource(194))
	text := randomText(r, 3*api.MaxBytes+5)
	got := mustNew(t, key1, nonce1).Next([]byte(text))
	for at := 0; at < len(text); at += 64 {
		block, e := Block(key1, nonce1, uint32(at/64+1))
		must(t, "Block", e, api.OK)
		for i := at; i < min(at+64, len(text)); i++ {
			if got[i] != text[i]^block[i-at] {
				t.Fatalf("byte %d of %d: %d, not %d", i, len(text), got[i], text[i]^block[i-at])
			}
		}
	}
}

func TestNoStream(t *testing.T) {
	var s *Stream
	for _, b := range [][]byte{nil, {}, []byte("abc")} {
		if got := s.Next(b); len(got) != 0 {
			t.Errorf("Next(%q) of no Stream: %v", b, got)
		}
	}
}

func TestNextOfNone(t *testing.T) {
	s := mustNew(t, key1, nonce1)
	for _, b := range [][]byte{nil, {}} {
		if got := s.Next(b); len(got) != 0 {
			t.Errorf("Next of none: %v", got)
		}
	}
	want, _ := Block(key1, nonce1, 1)
	if got := s.Next(make([]byte, 64)); string(got) != want {
		t.Errorf("Next behind Next of none: %x, not %x", got, want)
	}
}

func TestNextIsInNewMemory(t *testing.T) {
	s := mustNew(t, key1, nonce1)
	room := []byte("abcdefgh")
	first := s.Next(room[2:5])
	if string(room) != "abcdefgh" {
		t.Errorf("Next changed what it was handed in, or the room behind it: %q", room)
	}
	told := bytes.Clone(first)
	copy(room, "........")
	second := s.Next([]byte("fgh"))
	if !bytes.Equal(first, told) {
		t.Errorf("an answer changed: %x, not %x", first, told)
	}
	for i := range first[:cap(first)] {
		first[:cap(first)][i] = 0xaa
	}
	third := s.Next([]byte("ij"))
	if got, want := string(told)+string(second)+string(third), plainHide(key1, nonce1, "cdefghij"); got != want {
		t.Errorf("pieces whose memory was written to: %x, not %x", got, want)
	}
}

func TestStreamsAreApart(t *testing.T) {
	a, b := mustNew(t, key1, nonce1), mustNew(t, key1, nonce2)
	again := mustNew(t, key1, nonce1)
	gotA, gotB := "", ""
	for range 40 {
		gotA += string(a.Next([]byte("abcd")))
		gotB += string(b.Next([]byte("efghi")))
	}
	if want := plainHide(key1, nonce1, strings.Repeat("abcd", 40)); gotA != want {
		t.Errorf("the first stream: %x, not %x", gotA, want)
	}
	if want := plainHide(key1, nonce2, strings.Repeat("efghi", 40)); gotB != want {
		t.Errorf("the second stream: %x, not %x", gotB, want)
	}
	if got := again.Next([]byte(strings.Repeat("abcd", 40))); string(got) != gotA {
		t.Errorf("the same stream once more: %x, not %x", got, gotA)
	}
}

// Promise 19.4: what is hidden twice is there again; a stream in pieces is the stream.

func TestHiddenTwice(t *testing.T) {
	r := rand.New(rand.NewSource(195))
	for range 100 {
		key, nonce, text := randomText(r, 32), randomText(r, 12), randomText(r, r.Intn(2000))
		hidden, e := Hide(key, nonce, text)
		must(t, "Hide", e, api.OK)
		got, e := Hide(key, nonce, hidden)
		mustTell(t, "Hide of what is hidden", got, e, text, api.OK)
	}
}

func TestStreamInTwoPieces(t *testing.T) {
	text := strings.Repeat("some text ", 20)
	want, e := Hide(key1, nonce1, text)
	must(t, "Hide", e, api.OK)
	for cut := range len(text) + 1 {
		s := mustNew(t, key1, nonce1)
		got := string(s.Next([]byte(text[:cut]))) + string(s.Next([]byte(text[cut:])))
		if got != want {
			t.Fatalf("pieces of %d and %d bytes: %x, not %x", cut, len(text)-cut, got, want)
		}
	}
}

func TestStreamInPieces(t *testing.T) {
	r := rand.New(rand.NewSource(196))
	for range 200 {
		key, nonce, text := randomText(r, 32), randomText(r, 12), randomText(r, r.Intn(3000))
		want, e := Hide(key, nonce, text)
		must(t, "Hide", e, api.OK)
		s := mustNew(t, key, nonce)
		got := ""
		for most := 1 + r.Intn(200); len(got) < len(text); {
			size := min(r.Intn(most+1), len(text)-len(got))
			got += string(s.Next([]byte(text[len(got) : len(got)+size])))
		}
		if got != want {
			t.Fatalf("%d bytes in pieces: %.60x, not %.60x", len(text), got, want)
		}
	}
}
