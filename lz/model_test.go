package lz

import (
	"bytes"
	"fmt"
	"slices"
	"strings"
	"testing"

	"strongroom/api"
)

// plainNumber reads the number that b begins with, as the words of layer 1 tell it; of numbers of more than three bytes none is told, since all of them are above 65,536.
func plainNumber(b []byte) (n, at int, ok bool) {
	weight := 1
	for at < len(b) && at < 3 {
		c := int(b[at])
		at++
		n += c % 128 * weight
		weight *= 128
		if c < 128 {
			return n, at, (c > 0 || at == 1) && n <= 65536
		}
	}
	return 0, 0, false
}

// plainToken is the token that b begins with by the chapter's words, and what is behind it.
func plainToken(b []byte) (t Token, behind []byte, ok bool) {
	n := int(b[0])
	switch {
	case n < 128 && len(b) >= n+2:
		return Token{Data: string(b[1 : n+2])}, b[n+2:], true
	case n >= 128 && len(b) >= 3:
		return Token{Back: 256*int(b[1]) + int(b[2]) + 1, Size: n - 125}, b[3:], true
	}
	return Token{}, nil, false
}

// plainText is the bytes that tokens tell, each one looked up by its place; false, if one of them is ahead of the first.
func plainText(l []Token) (string, bool) {
	var text []byte
	for _, t := range l {
		text = append(text, t.Data...)
		start := len(text)
		for i := range t.Size {
			place := start + i - t.Back
			if place < 0 {
				return "", false
			}
			text = append(text, text[place])
		}
	}
	return string(text), true
}

// plainRead is what packed bytes are by the chapter's words: whether they are right, and if so their tokens and their text.
func plainRead(b []byte) (l []Token, text string, right bool) {
	n, at, ok := plainNumber(b)
	if !ok {
		return nil, "", false
	}
	rest := b[at:]
	for len(rest) > 0 {
		t, behind, ok := plainToken(rest)
		if !ok {
			return nil, "", false
		}
		l, rest = append(l, t), behind
	}
	text, ok = plainText(l)
	if !ok || len(text) != n {
		return nil, "", false
	}
	return l, text, true
}

// plainMay tells whether a token can be told.
func plainMay(t Token) bool {
	if t.Data != "" {
		return len(t.Data) <= 128 && t.Back == 0 && t.Size == 0
	}
	return t.Size >= 3 && t.Size <= 130 && t.Back >= 1 && t.Back <= 65536
}

// plainBytes is the bytes of a number up to 65,536 and of tokens.
func plainBytes(n int, l []Token) []byte {
	var b []byte
	for n >= 128 {
		b = append(b, byte(n%128+128))
		n /= 128
	}
	b = append(b, byte(n))
	for _, t := range l {
		if t.Data != "" {
			b = append(b, byte(len(t.Data)-1))
			b = append(b, t.Data...)
		} else {
			b = append(b, byte(t.Size+125), byte((t.Back-1)/256), byte((t.Back-1)%256))
		}
	}
	return b
}

// plainJoin is what Join answers by the chapter's words.
func plainJoin(l []Token) ([]byte, api.Errno) {
	for _, t := range l {
		if !plainMay(t) {
			return nil, api.ErrArg
		}
	}
	text, ok := plainText(l)
	switch {
	case !ok:
		return nil, api.ErrArg
	case len(text) > 65536:
		return nil, api.ErrLong
	}
	return plainBytes(len(text), l), api.OK
}

func own(s string) Token { return Token{Data: s} }

func earlier(back, size int) Token { return Token{Back: back, Size: size} }

// owns is as many tokens of 128 bytes as are told, all of the byte c.
func owns(many int, c byte) []Token {
	return slices.Repeat([]Token{own(strings.Repeat(string([]byte{c}), 128))}, many)
}

// brief is how many tokens there are, and what the first ones are.
func brief(l []Token) string {
	return fmt.Sprintf("%d tokens %.300s", len(l), fmt.Sprintf("%q", fmt.Sprint(l)))
}

func must[T comparable](t *testing.T, what string, got, want T) {
	t.Helper()
	if got != want {
		t.Fatalf("%s: %v, not %v", what, got, want)
	}
}

func mustUnpack(t *testing.T, b []byte, most int, want string, errno api.Errno) {
	t.Helper()
	got, e := Unpack(b, most)
	if string(got) != want || e != errno {
		t.Fatalf("Unpack(%.40v, %d): %.40q of %d bytes, %d; not %.40q of %d bytes, %d", b, most, got, len(got), e, want, len(want), errno)
	}
}

func mustSize(t *testing.T, b []byte, want int, errno api.Errno) {
	t.Helper()
	got, e := Size(b)
	if got != want || e != errno {
		t.Fatalf("Size(%.40v): %d, %d; not %d, %d", b, got, e, want, errno)
	}
}

func mustTokens(t *testing.T, b []byte, want []Token, errno api.Errno) {
	t.Helper()
	got, e := Tokens(b)
	if !slices.Equal(got, want) || e != errno {
		t.Fatalf("Tokens(%.40v): %s, %d; not %s, %d", b, brief(got), e, brief(want), errno)
	}
}

func mustJoin(t *testing.T, l []Token, want []byte, errno api.Errno) {
	t.Helper()
	got, e := Join(l)
	if !bytes.Equal(got, want) || e != errno {
		t.Fatalf("Join(%s): %.40v, %d; not %.40v, %d", brief(l), got, e, want, errno)
	}
}

// mustRead holds all that reads packed bytes against the plain reading.
func mustRead(t *testing.T, b []byte) {
	t.Helper()
	l, text, right := plainRead(b)
	n, _, ok := plainNumber(b)
	if ok {
		mustSize(t, b, n, api.OK)
	} else {
		mustSize(t, b, 0, api.ErrForm)
	}
	if ok && n > 0 {
		mustUnpack(t, b, n-1, "", api.ErrLong)
	}
	if !right {
		mustTokens(t, b, nil, api.ErrForm)
		mustUnpack(t, b, 65536, "", api.ErrForm)
		mustUnpack(t, b, max(n, 0), "", api.ErrForm)
		return
	}
	mustTokens(t, b, l, api.OK)
	mustUnpack(t, b, n, text, api.OK)
	mustJoin(t, l, b, api.OK)
}
