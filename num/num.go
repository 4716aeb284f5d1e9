// Package num is layer 1: it writes numbers and texts into bytes, each in one form, and reads them again. See shared/doc/01-num.md.
package num

import (
	"math/bits"

	"strongroom/api"
)

const (
	group     = 7          // bits of a number that stand in one byte
	more      = 1 << group // is added to each byte but the last
	mostBytes = 10         // bytes of the longest number
	mostTop   = 1          // the tenth byte has but the bit 63 left to tell
)

// Size is how many bytes a number has.
func Size(n uint64) int {
	return max(1, (bits.Len64(n)+group-1)/group)
}

// Put answers b and the bytes of n behind it, in new memory.
func Put(b []byte, n uint64) []byte {
	return appendNumber(withRoom(b, Size(n)), n)
}

// PutText answers b and the bytes of s behind it, in new memory.
func PutText(b []byte, s string) []byte {
	return appendText(withRoom(b, textSize(s)), s)
}

// PutList answers b and the bytes of l behind it, in new memory.
func PutList(b []byte, l []string) []byte {
	size := Size(uint64(len(l)))
	for _, s := range l {
		size += textSize(s)
	}
	out := appendNumber(withRoom(b, size), uint64(len(l)))
	for _, s := range l {
		out = appendText(out, s)
	}
	return out
}

// Get reads the number that begins at the place at, and tells the place behind it.
func Get(b []byte, at int) (uint64, int, api.Errno) {
	if at < 0 || at > len(b) {
		return 0, 0, api.ErrRange
	}
	var n uint64
	for i := range mostBytes {
		if i == len(b)-at {
			return 0, 0, api.ErrEnd
		}
		c := b[at+i]
		n |= uint64(c%more) << (group * i)
		if c >= more {
			continue
		}
		if !endsNumber(i, c) {
			return 0, 0, api.ErrForm
		}
		return n, at + i + 1, api.OK
	}
	return 0, 0, api.ErrForm
}

// GetText reads a text of up to most bytes, and tells the place behind it.
func GetText(b []byte, at, most int) (string, int, api.Errno) {
	n, from, e := getCount(b, at, most)
	if e != api.OK {
		return "", 0, e
	}
	if n > len(b)-from {
		return "", 0, api.ErrEnd
	}
	return string(b[from : from+n]), from + n, api.OK
}

// GetList reads up to many texts of up to most bytes each, and tells the place behind them.
func GetList(b []byte, at, many, most int) ([]string, int, api.Errno) {
	n, place, e := getCount(b, at, many)
	if e != api.OK {
		return nil, 0, e
	}
	// The count is not to be trusted with memory until the texts have been seen: the list grows as they come.
	var l []string
	for range n {
		s, next, e := GetText(b, place, most)
		if e != api.OK {
			return nil, 0, e
		}
		l, place = append(l, s), next
	}
	return l, place, api.OK
}

// withRoom copies b, so that what is put behind it never reaches into the caller's memory.
func withRoom(b []byte, size int) []byte {
	return append(make([]byte, 0, len(b)+size), b...)
}

func textSize(s string) int {
	return Size(uint64(len(s))) + len(s)
}

func appendNumber(b []byte, n uint64) []byte {
	for n >= more {
		b = append(b, byte(n%more)+more)
		n >>= group
	}
	return append(b, byte(n))
}

func appendText(b []byte, s string) []byte {
	return append(appendNumber(b, uint64(len(s))), s...)
}

// endsNumber tells whether c may be a number's last byte, with i bytes ahead of it: a number has one form, and 64 bits.
func endsNumber(i int, c byte) bool {
	if i > 0 && c == 0 {
		return false
	}
	return i < mostBytes-1 || c <= mostTop
}

// getCount reads a number of up to most. What it answers is an int, since it isn't above one.
func getCount(b []byte, at, most int) (int, int, api.Errno) {
	n, next, e := Get(b, at)
	if e != api.OK {
		return 0, 0, e
	}
	if n > uint64(max(most, 0)) {
		return 0, 0, api.ErrLong
	}
	return int(n), next, api.OK
}
