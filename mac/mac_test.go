package mac

import (
	"crypto/hmac"
	"crypto/sha256"
	"encoding/hex"
	"math"
	"math/rand"
	"slices"
	"strings"
	"testing"

	"strongroom/api"
)

// some is a text of n bytes, another one for each seed.
func some(n int, seed int64) string {
	b := make([]byte, n)
	rand.New(rand.NewSource(seed)).Read(b)
	return string(b)
}

// standard is the seal as Go's library makes it.
func standard(key, message string) string {
	h := hmac.New(sha256.New, []byte(key))
	h.Write([]byte(message))
	return string(h.Sum(nil))
}

// keySizes are the lengths of keys at which a block is filled otherwise, and those beside them.
var keySizes = []int{0, 1, 2, 31, 32, 33, 63, 64, 65, 66, 127, 128, 129, 200, 1000}

// Promise 3.1

func TestSealOfKnownMessages(t *testing.T) {
	for _, c := range []struct{ key, message, want string }{
		{strings.Repeat("\x0b", 20), "Hi There", "b0344c61d8db38535ca8afceaf0bf12b881dc200c9833da726e9376c2e32cff7"},
		{"Jefe", "what do ya want for nothing?", "5bdcc146bf60754e6a042426089575c75a003f089d2739839dec58b964ec3843"},
		{strings.Repeat("\xaa", 20), strings.Repeat("\xdd", 50), "773ea91e36800e46854db8ebd09181a72959098b3ef8c122d9635514ced565fe"},
		{strings.Repeat("\xaa", 131), "Test Using Larger Than Block-Size Key - Hash Key First", "60e431591ee0b67f0d8a26aacbf5b77f8e0bc6213728c5140546040f0ee37f54"},
		{"", "", "b613679a0814d9ec772f95d778c35fc5ff1697c493715653c6c712144292c5ad"},
	} {
		if got := hex.EncodeToString([]byte(Seal(c.key, c.message))); got != c.want {
			t.Errorf("Seal(%q, %q) = %s, want %s", c.key, c.message, got, c.want)
		}
	}
}

func TestSealOfKeysAndMessagesOfAllLengths(t *testing.T) {
	for _, k := range keySizes {
		for m := range 140 {
			key, message := some(k, int64(k)), some(m, int64(1000+m))
			if got, want := Seal(key, message), standard(key, message); got != want {
				t.Fatalf("a key of %d bytes, a message of %d: %x, want %x", k, m, got, want)
			}
		}
	}
	key, message := some(70000, 1), some(100000, 2)
	if Seal(key, message) != standard(key, message) {
		t.Error("a long key and a long message have a wrong seal")
	}
}

func TestSealTakesTheDigestOfALongKeyAlone(t *testing.T) {
	long := some(65, 3)
	sum := sha256.Sum256([]byte(long))
	if Seal(long, "m") != Seal(string(sum[:]), "m") {
		t.Error("a key of 65 bytes doesn't seal as its digest does")
	}
	full := some(64, 4)
	sum = sha256.Sum256([]byte(full))
	if Seal(full, "m") == Seal(string(sum[:]), "m") {
		t.Error("a key of 64 bytes seals as its digest does")
	}
}

func TestSealPutsNoughtsBehindAShortKey(t *testing.T) {
	if Seal("k", "m") != Seal("k"+strings.Repeat("\x00", 63), "m") {
		t.Error("a short key doesn't seal as the one with noughts up to 64 bytes does")
	}
	if Seal("k", "m") == Seal("\x00k", "m") {
		t.Error("noughts ahead of a key are as those behind it")
	}
}

func TestSealTakesBytesThatAreNoText(t *testing.T) {
	key, message := "\xff\x00\xc3\x28", "\x80\xed\xa0\x80\x00"
	if Seal(key, message) != standard(key, message) {
		t.Error("bytes that are no text have a wrong seal")
	}
}

func TestSealKeepsNothing(t *testing.T) {
	first := Seal("k", "m")
	Seal("another key", "another message")
	Check("k", "m", "no seal")
	if Seal("k", "m") != first {
		t.Error("the same seal is another one behind other calls")
	}
}

func TestCheckOfTheSeal(t *testing.T) {
	for _, k := range keySizes {
		for _, m := range []int{0, 1, 55, 56, 64, 65, 500} {
			key, message := some(k, int64(k)), some(m, int64(m))
			if !Check(key, message, standard(key, message)) {
				t.Errorf("a key of %d bytes, a message of %d: its seal is refused", k, m)
			}
		}
	}
}

func TestCheckOfAnotherKeyOrMessage(t *testing.T) {
	seal := Seal("k", "m")
	for _, c := range [][2]string{{"k", "n"}, {"k", ""}, {"k", "mm"}, {"l", "m"}, {"", "m"}, {"kk", "m"}, {"m", "k"}, {"", ""}, {"km", ""}, {"", "km"}} {
		if Check(c[0], c[1], seal) {
			t.Errorf("Check(%q, %q) takes the seal of k and m", c[0], c[1])
		}
	}
}

// changed is a text with its byte at the place i changed by mask.
func changed(s string, i int, mask byte) string {
	b := []byte(s)
	b[i] ^= mask
	return string(b)
}

func TestCheckLooksAtEveryBit(t *testing.T) {
	seal := Seal("k", "m")
	for i := range seal {
		for bit := range 8 {
			if Check("k", "m", changed(seal, i, 1<<bit)) {
				t.Errorf("the bit %d of the byte %d isn't looked at", bit, i)
			}
		}
	}
}

func TestCheckOfTwoBytesChangedAlike(t *testing.T) {
	seal := Seal("k", "m")
	for i := range seal {
		for j := range i {
			for _, mask := range []byte{1, 128, 255} {
				if Check("k", "m", changed(changed(seal, i, mask), j, mask)) {
					t.Errorf("the bytes %d and %d, changed alike, are taken", j, i)
				}
			}
		}
	}
}

func TestCheckOfAnotherLength(t *testing.T) {
	seal := Seal("k", "m")
	for n := range seal {
		if Check("k", "m", seal[:n]) || Check("k", "m", seal[len(seal)-n:]) {
			t.Errorf("%d bytes of the seal are taken", n)
		}
	}
	for _, s := range []string{"", seal + "\x00", "\x00" + seal, seal + "x", seal + seal, hex.EncodeToString([]byte(seal))} {
		if Check("k", "m", s) {
			t.Errorf("%d bytes are taken for the seal", len(s))
		}
	}
}

// Promise 3.2

// derived is the first n derived bytes as the chapter's words make them.
func derived(key, label string, n int) string {
	all, last := "", ""
	for i := 1; i <= 255; i++ {
		last = standard(key, last+label+string([]byte{byte(i)}))
		all += last
	}
	return all[:n]
}

func TestDeriveOfAllLengths(t *testing.T) {
	want := derived("key", "label", 8160)
	for n := range 8161 {
		if n > 200 && n < 8100 && n%32 > 1 && n%32 < 31 {
			continue
		}
		if got, e := Derive("key", "label", n); got != want[:n] || e != api.OK {
			t.Fatalf("Derive of %d bytes is wrong, with the error %d", n, e)
		}
	}
}

func TestDeriveOfKeysAndLabels(t *testing.T) {
	for _, k := range keySizes {
		for _, l := range []int{0, 1, 20, 63, 64, 300} {
			key, label := some(k, int64(k)), some(l, int64(l))
			for _, n := range []int{1, 32, 33, 100} {
				if got, e := Derive(key, label, n); got != derived(key, label, n) || e != api.OK {
					t.Errorf("a key of %d bytes, a label of %d: %d bytes are wrong, with the error %d", k, l, n, e)
				}
			}
		}
	}
}

func TestDeriveOfKnownBytes(t *testing.T) {
	// The third case of RFC 5869: no salt and no info; its PRK, and the 42 bytes that it gives.
	key, _ := hex.DecodeString("19ef24a32c717b167f33a91d6f648bdf96596776afdb6377ac434c1c293ccb04")
	want := "8da4e775a563c18f715f802a063c5a31b8a11f5c5ee1879ec3454e5f3c738d2d9d201395faa4b61a96c8"
	got, e := Derive(string(key), "", 42)
	if hex.EncodeToString([]byte(got)) != want || e != api.OK {
		t.Errorf("%x and the error %d, want %s", got, e, want)
	}
}

func TestDeriveOfNoBytes(t *testing.T) {
	if got, e := Derive("k", "l", 0); got != "" || e != api.OK {
		t.Errorf("%q and the error %d", got, e)
	}
}

func TestDeriveOutOfRange(t *testing.T) {
	for _, n := range []int{-1, -32, math.MinInt, 8161, 8192, 1 << 31, math.MaxInt} {
		if got, e := Derive("k", "l", n); got != "" || e != api.ErrRange {
			t.Errorf("Derive of %d: %d bytes and the error %d", n, len(got), e)
		}
	}
	if got, e := Derive("k", "l", 8160); len(got) != 8160 || e != api.OK {
		t.Errorf("Derive of 8160: %d bytes and the error %d", len(got), e)
	}
}

// Promise 3.3

func TestChainOfNoParts(t *testing.T) {
	for _, key := range []string{"", "k", some(64, 1), some(500, 2)} {
		if Chain(key, nil) != key || Chain(key, []string{}) != key {
			t.Errorf("the chain of no parts isn't the key of %d bytes", len(key))
		}
	}
}

func TestChainSealsEachPartByTheOneAhead(t *testing.T) {
	for _, k := range keySizes {
		key := some(k, int64(k))
		want := key
		var parts []string
		for i, part := range []string{"a", "", "bc", some(64, 5), some(300, 6), "a"} {
			parts = append(parts, part)
			want = standard(want, part)
			if got := Chain(key, parts); got != want {
				t.Fatalf("a key of %d bytes: the chain of %d parts is %x, want %x", k, i+1, got, want)
			}
		}
	}
}

func TestChainOfAnEmptyPart(t *testing.T) {
	if Chain("k", []string{""}) != standard("k", "") {
		t.Error("an empty part isn't sealed")
	}
	if Chain("k", []string{"a", ""}) == Chain("k", []string{"a"}) || Chain("k", []string{"", "a"}) == Chain("k", []string{"a"}) {
		t.Error("an empty part is left out")
	}
}

func TestChainTellsItsPartsApart(t *testing.T) {
	whole := Chain("k", []string{"a", "b"})
	for _, parts := range [][]string{{"b", "a"}, {"ab"}, {"a"}, {"b"}, {"a", "b", "b"}, {"", "ab"}, {"ab", ""}} {
		if Chain("k", parts) == whole {
			t.Errorf("the chain of %q is that of a and b", parts)
		}
	}
}

func TestChainLeavesItsPartsAlone(t *testing.T) {
	parts := []string{"a", "b", "c", "d"}
	Chain("k", parts[:2])
	if !slices.Equal(parts, []string{"a", "b", "c", "d"}) {
		t.Errorf("the parts became %q", parts)
	}
}

func TestChainOfManyParts(t *testing.T) {
	want, parts := "k", make([]string, 20000)
	for range parts {
		want = standard(want, "")
	}
	if Chain("k", parts) != want {
		t.Error("a chain of 20000 parts is wrong")
	}
}

// Promise 3.4

func TestWhatIsDerivedBeginsWhatMoreIsDerived(t *testing.T) {
	most, _ := Derive("k", "l", 8160)
	for _, n := range []int{0, 1, 9, 31, 32, 33, 64, 65, 1000, 8127, 8128, 8129, 8159} {
		got, e := Derive("k", "l", n)
		if e != api.OK || len(got) != n || !strings.HasPrefix(most, got) {
			t.Errorf("the %d bytes, with the error %d, aren't the first ones of 8160", n, e)
		}
	}
}

func TestAChainGoesOnWhereItEnded(t *testing.T) {
	parts := []string{"a", "", "bc", some(100, 1), "d"}
	whole := Chain("key", parts)
	for i := range len(parts) + 1 {
		if Chain(Chain("key", parts[:i]), parts[i:]) != whole {
			t.Errorf("a chain that goes on behind %d parts ends elsewhere", i)
		}
	}
}

func TestOnlyOneTextIsASeal(t *testing.T) {
	seal := Seal("k", "m")
	if len(seal) != 32 || !Check("k", "m", seal) {
		t.Fatal("the seal isn't taken")
	}
	for seed := range int64(2000) {
		if s := some(32, seed); Check("k", "m", s) != (s == seal) {
			t.Errorf("%x is taken for %x", s, seal)
		}
	}
	for i := range seal {
		for mask := 1; mask < 256; mask++ {
			if Check("k", "m", changed(seal, i, byte(mask))) {
				t.Errorf("the seal with another byte at %d is taken", i)
			}
		}
	}
}
