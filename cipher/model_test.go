package cipher

import (
	"crypto/hmac"
	"crypto/sha256"
	"encoding/binary"
	"math/rand"
	"testing"

	"strongroom/api"
)

// What the chapter's words say, as plainly as may be: a word is a list of 32 bits, the lowest one first.

type plainWord [32]bool

func plainOf(n uint32) plainWord {
	var w plainWord
	for i := range w {
		w[i] = n>>i&1 == 1
	}
	return w
}

func (w plainWord) number() uint32 {
	n := uint32(0)
	for i := range w {
		if w[i] {
			n += 1 << i
		}
	}
	return n
}

func (w plainWord) plus(x plainWord) plainWord {
	return plainOf(uint32((uint64(w.number()) + uint64(x.number())) % (1 << 32)))
}

func (w plainWord) bitByBit(x plainWord) plainWord {
	for i := range w {
		w[i] = w[i] != x[i]
	}
	return w
}

func (w plainWord) turned(n int) plainWord {
	var out plainWord
	for i := range w {
		out[(i+n)%32] = w[i]
	}
	return out
}

func plainQuarter(l []plainWord, ia, ib, ic, id int) {
	a, b, c, d := &l[ia], &l[ib], &l[ic], &l[id]
	*a = a.plus(*b)
	*d = d.bitByBit(*a).turned(16)
	*c = c.plus(*d)
	*b = b.bitByBit(*c).turned(12)
	*a = a.plus(*b)
	*d = d.bitByBit(*a).turned(8)
	*c = c.plus(*d)
	*b = b.bitByBit(*c).turned(7)
}

func plainBlock(key, nonce string, n uint32) string {
	begin := "expand 32-byte k" + key + string(binary.LittleEndian.AppendUint32(nil, n)) + nonce
	var first, l []plainWord
	for i := 0; i < 64; i += 4 {
		first = append(first, plainOf(binary.LittleEndian.Uint32([]byte(begin[i:]))))
	}
	l = append(l, first...)
	for range 10 {
		plainQuarter(l, 0, 4, 8, 12)
		plainQuarter(l, 1, 5, 9, 13)
		plainQuarter(l, 2, 6, 10, 14)
		plainQuarter(l, 3, 7, 11, 15)
		plainQuarter(l, 0, 5, 10, 15)
		plainQuarter(l, 1, 6, 11, 12)
		plainQuarter(l, 2, 7, 8, 13)
		plainQuarter(l, 3, 4, 9, 14)
	}
	var out []byte
	for i, w := range l {
		out = binary.LittleEndian.AppendUint32(out, w.plus(first[i]).number())
	}
	return string(out)
}

// plainHide is the hidden text.
func plainHide(key, nonce, text string) string {
	stream := ""
	for n := uint32(1); len(stream) < len(text); n++ {
		stream += plainBlock(key, nonce, n)
	}
	out := []byte(text)
	for i := range out {
		out[i] ^= stream[i]
	}
	return string(out)
}

func plainMAC(key string, parts ...string) string {
	h := hmac.New(sha256.New, []byte(key))
	for _, p := range parts {
		h.Write([]byte(p))
	}
	return string(h.Sum(nil))
}

// plainSeal is the sealed bytes of a text.
func plainSeal(secret, nonce, label, text string) string {
	key := plainMAC(secret, "strongroom seal\x01")
	sealKey := plainMAC(secret, key, "strongroom seal\x02")
	hidden := plainHide(key, nonce, text)
	size := string(binary.LittleEndian.AppendUint64(nil, uint64(len(label))))
	return hidden + plainMAC(sealKey, nonce, size, label, hidden)[:16]
}

func must(t *testing.T, what string, e, want api.Errno) {
	t.Helper()
	if e != want {
		t.Fatalf("%s: %v, not %v", what, e, want)
	}
}

// mustTell holds a text and an error against those that are asked for.
func mustTell(t *testing.T, what, got string, e api.Errno, want string, wantE api.Errno) {
	t.Helper()
	if got != want || e != wantE {
		t.Fatalf("%s: %.80x (%d bytes), %v, not %.80x (%d bytes), %v", what, got, len(got), e, want, len(want), wantE)
	}
}

// randomText is some bytes.
func randomText(r *rand.Rand, size int) string {
	b := make([]byte, size)
	r.Read(b)
	return string(b)
}
