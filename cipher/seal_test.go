package cipher

import (
	"fmt"
	"math/rand"
	"strings"
	"testing"

	"strongroom/api"
)

const tooLong = api.MaxBytes + 1

// mustSeal seals a text, and holds the sealed bytes against the model.
func mustSeal(t *testing.T, secret, nonce, label, text string) string {
	t.Helper()
	what := fmt.Sprintf("of %d bytes by a secret of %d and a label of %d", len(text), len(secret), len(label))
	sealed, e := Seal(secret, nonce, label, text)
	mustTell(t, "Seal "+what, sealed, e, plainSeal(secret, nonce, label, text), api.OK)
	opened, e := Open(secret, nonce, label, sealed)
	mustTell(t, "Open "+what, opened, e, text, api.OK)
	return sealed
}

// mustRefuse holds that Open answers nothing but an error.
func mustRefuse(t *testing.T, what, secret, nonce, label, sealed string, want api.Errno) {
	t.Helper()
	got, e := Open(secret, nonce, label, sealed)
	mustTell(t, "Open of "+what, got, e, "", want)
}

// Promise 19.3: Seal

func TestSealThatIsKnown(t *testing.T) {
	hundred := ""
	for i := range 100 {
		hundred += string([]byte{byte(i)})
	}
	for _, c := range []struct{ secret, nonce, label, text, want string }{
		{"s", nonce3, "l", "text", "057317952c5d7cafab482a5dc0eb4bb985514dc9"},
		{"", strings.Repeat("\x00", 12), "", "", "771e2d8be07109d723a1de8f37d75d54"},
		{hundred, nonce2, strings.Repeat("x", 300), sunscreen,
			"87737812182612332df068359b07dde2c86152cffbcd4e74f9bebd73f231162425e591929d6683997b233e00e1661c00" +
				"d5d0f6c59c530512c4e7362c899279b67efe5ead511b5ceed5592413b313747789ab0e210af902ef87291413fd80e2b0" +
				"a29c859b195e2e299a485d86d7ded506ca5f82cb88275ed3400f18b44f5aba912f98"},
	} {
		if got, want := mustSeal(t, c.secret, c.nonce, c.label, c.text), bytesOf(t, c.want); got != want {
			t.Errorf("Seal of %.20q: %x, not %x", c.text, got, want)
		}
	}
}

func TestSealHasSixteenBytesMore(t *testing.T) {
	for size := range 200 {
		sealed, e := Seal("s", nonce3, "l", strings.Repeat("a", size))
		must(t, "Seal", e, api.OK)
		if len(sealed) != size+16 {
			t.Errorf("Seal of %d bytes: %d bytes", size, len(sealed))
		}
	}
}

func TestSealAgainstTheModel(t *testing.T) {
	r := rand.New(rand.NewSource(197))
	for range 300 {
		mustSeal(t, randomText(r, r.Intn(100)), randomText(r, 12), randomText(r, r.Intn(80)), randomText(r, r.Intn(300)))
	}
	for _, size := range []int{0, 1, 31, 32, 33, 63, 64, 65, 1000, 70000} {
		mustSeal(t, strings.Repeat("s", size), nonce3, "l", "text")
	}
	for _, size := range []int{1, 255, 256, 257, 1000, 4096} {
		mustSeal(t, "s", nonce3, strings.Repeat("l", size), "text")
	}
}

func TestSealAtTheLimits(t *testing.T) {
	sealed, e := Seal("secret", nonce3, strings.Repeat("l", api.MaxBytes), strings.Repeat("t", api.MaxBytes))
	must(t, "Seal of the longest text by the longest label", e, api.OK)
	if len(sealed) != 65552 || digestOf(sealed) != "4c13d797593bbd8fde4ceb91c310064e56395748b8811415064ace87859b9a54" {
		t.Errorf("Seal of the longest text by the longest label: %d bytes, %.20x ..", len(sealed), sealed)
	}
	text, e := Open("secret", nonce3, strings.Repeat("l", api.MaxBytes), sealed)
	mustTell(t, "Open of the longest", text, e, strings.Repeat("t", api.MaxBytes), api.OK)
}

func TestSealRefuses(t *testing.T) {
	long := strings.Repeat("x", tooLong)
	for _, c := range []struct {
		what, nonce, label, text string
		want                     api.Errno
	}{
		{"a long text", nonce3, "l", long, api.ErrLong},
		{"a long label", nonce3, long, "text", api.ErrLong},
		{"a long label and no text", nonce3, long, "", api.ErrLong},
		{"both long", nonce3, long, long, api.ErrLong},
		{"much too long a text", nonce3, "", long + long, api.ErrLong},
	} {
		got, e := Seal("s", c.nonce, c.label, c.text)
		mustTell(t, "Seal of "+c.what, got, e, "", c.want)
	}
	for _, nonce := range wrongNonces {
		for _, label := range []string{"", "l", long} {
			for _, text := range []string{"", "text", long} {
				got, e := Seal("s", nonce, label, text)
				mustTell(t, fmt.Sprintf("Seal by a nonce of %d bytes", len(nonce)), got, e, "", api.ErrArg)
			}
		}
	}
}

// Promise 19.3: Open

func TestOpenRefusesInItsOrder(t *testing.T) {
	long := strings.Repeat("x", tooLong)
	right := mustSeal(t, "s", nonce3, "l", "text")
	for _, nonce := range wrongNonces {
		for _, label := range []string{"", "l", long} {
			for _, sealed := range []string{"", right, right[1:], strings.Repeat("x", api.MaxBytes+17)} {
				mustRefuse(t, fmt.Sprintf("a nonce of %d bytes", len(nonce)), "s", nonce, label, sealed, api.ErrArg)
			}
		}
	}
	mustRefuse(t, "a long label", "s", nonce3, long, right, api.ErrLong)
	mustRefuse(t, "a long label, and too few bytes", "s", nonce3, long, "", api.ErrLong)
	mustRefuse(t, "65,553 bytes", "s", nonce3, "l", strings.Repeat("x", api.MaxBytes+17), api.ErrLong)
	mustRefuse(t, "131,072 bytes", "s", nonce3, "l", strings.Repeat("x", 2*api.MaxBytes), api.ErrLong)
	mustRefuse(t, "65,552 bytes that aren't sealed", "s", nonce3, "l", strings.Repeat("x", api.MaxBytes+16), api.ErrForm)
	longest := strings.Repeat("l", api.MaxBytes)
	mustRefuse(t, "the longest label, which is another one", "s", nonce3, longest, right, api.ErrForm)
	for size := range 16 {
		mustRefuse(t, fmt.Sprintf("%d bytes", size), "s", nonce3, "l", right[:size], api.ErrEnd)
		mustRefuse(t, fmt.Sprintf("%d bytes at the end", size), "s", nonce3, "l", right[len(right)-size:], api.ErrEnd)
	}
	for size := 16; size < len(right); size++ {
		mustRefuse(t, fmt.Sprintf("%d bytes of %d", size, len(right)), "s", nonce3, "l", right[:size], api.ErrForm)
	}
	mustRefuse(t, "a seal without its text", "s", nonce3, "l", right[4:], api.ErrForm)
	mustRefuse(t, "a byte ahead", "s", nonce3, "l", "\x00"+right, api.ErrForm)
	mustRefuse(t, "a byte behind", "s", nonce3, "l", right+"\x00", api.ErrForm)
	mustRefuse(t, "what is sealed twice over", "s", nonce3, "l", right+right, api.ErrForm)
}

func TestOpenOfTheEmptyText(t *testing.T) {
	empty := mustSeal(t, "s", nonce3, "l", "")
	if len(empty) != 16 {
		t.Fatalf("Seal of none: %d bytes", len(empty))
	}
	mustRefuse(t, "a byte too few of the empty text", "s", nonce3, "l", empty[:15], api.ErrEnd)
	mustRefuse(t, "noughts", "s", nonce3, "l", strings.Repeat("\x00", 16), api.ErrForm)
}

func TestOpenByOthers(t *testing.T) {
	right := mustSeal(t, "secret", nonce3, "label", "text")
	for _, secret := range []string{"", "secre", "secrets", "Secret", "secret "} {
		mustRefuse(t, fmt.Sprintf("the secret %q", secret), secret, nonce3, "label", right, api.ErrForm)
	}
	for _, label := range []string{"", "labe", "labels", "Label", "lebal", "label\x00"} {
		mustRefuse(t, fmt.Sprintf("the label %q", label), "secret", nonce3, label, right, api.ErrForm)
	}
	for i := range nonce3 {
		nonce := []byte(nonce3)
		nonce[i] ^= 1
		mustRefuse(t, fmt.Sprintf("the nonce %q", nonce), "secret", string(nonce), "label", right, api.ErrForm)
	}
}

// Bytes go from the label to the hidden text, and back, but the seal belongs to where they were.
func TestLabelAndHiddenTextAreApart(t *testing.T) {
	label := "label"
	right := mustSeal(t, "s", nonce3, label, "text")
	for cut := range len(label) {
		mustRefuse(t, "a label's end ahead of it", "s", nonce3, label[:cut], label[cut:]+right, api.ErrForm)
	}
	for cut := 1; cut <= 4; cut++ {
		mustRefuse(t, "a label with its beginning", "s", nonce3, label+right[:cut], right[cut:], api.ErrForm)
	}
}

// Promise 19.4: what was sealed is opened; with any one byte of it changed it isn't.

func TestOpenOfOneByteChanged(t *testing.T) {
	for _, text := range []string{"", "t", "text", strings.Repeat("text ", 20)} {
		right := mustSeal(t, "s", nonce3, "l", text)
		for i := range len(right) {
			for x := 1; x < 256; x++ {
				if len(text) > 4 && x&(x-1) != 0 {
					continue
				}
				b := []byte(right)
				b[i] ^= byte(x)
				mustRefuse(t, fmt.Sprintf("byte %d of %d changed by %d", i, len(right), x), "s", nonce3, "l", string(b), api.ErrForm)
			}
		}
	}
}

// Two changes that take each other off in a sum aren't taken for none.
func TestOpenOfTwoBytesChanged(t *testing.T) {
	right := mustSeal(t, "s", nonce3, "l", "")
	for i := range 16 {
		for k := range i {
			b := []byte(right)
			b[i] ^= 0x80
			b[k] ^= 0x80
			mustRefuse(t, fmt.Sprintf("bytes %d and %d changed", k, i), "s", nonce3, "l", string(b), api.ErrForm)
			c := []byte(right)
			c[i]++
			c[k]--
			mustRefuse(t, fmt.Sprintf("bytes %d and %d one more and less", i, k), "s", nonce3, "l", string(c), api.ErrForm)
		}
	}
}

func TestSealsOfChangedLongTexts(t *testing.T) {
	r := rand.New(rand.NewSource(198))
	for range 100 {
		secret, nonce, label, text := randomText(r, 20), randomText(r, 12), randomText(r, 9), randomText(r, 1+r.Intn(1500))
		sealed, e := Seal(secret, nonce, label, text)
		must(t, "Seal", e, api.OK)
		opened, e := Open(secret, nonce, label, sealed)
		mustTell(t, "Open", opened, e, text, api.OK)
		b := []byte(sealed)
		b[r.Intn(len(b))] ^= byte(1 + r.Intn(255))
		mustRefuse(t, "a changed byte", secret, nonce, label, string(b), api.ErrForm)
	}
}
