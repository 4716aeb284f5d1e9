package pager

import (
	"math/bits"

	"strongroom/api"
)

const (
	name      = "strongroom" // with which a head begins
	rootCount = 4
	maxPages  = 128 // of a journal: a head has a bit for each
	maxSerial = 1<<63 - 1

	serialAt = len(name)
	rootsAt  = serialAt + 8
	usedAt   = rootsAt + 2*rootCount
)

// pageSet is some of the pages: the page i, if the bit i modulo 8 of the byte i / 8 is set.
type pageSet [maxPages / 8]byte

// has tells whether a page is one of them; the page is from 0 to 127.
func (s pageSet) has(id int) bool {
	return s[id/8]>>(id%8)&1 == 1
}

// add takes a page in.
func (s *pageSet) add(id int) {
	s[id/8] |= 1 << (id % 8)
}

// drop takes a page out.
func (s *pageSet) drop(id int) {
	s[id/8] &^= 1 << (id % 8)
}

// count is how many pages there are in it.
func (s pageSet) count() int {
	n := 0
	for _, b := range s {
		n += bits.OnesCount8(b)
	}
	return n
}

// head is what the page 0 tells.
type head struct {
	serial uint64
	roots  [rootCount]int
	used   pageSet
}

// newHead is the head that a page 0 of noughts stands for.
func newHead() head {
	var h head
	h.used.add(0)
	return h
}

// noughts is a page's bytes that are all nought.
func noughts() string {
	return string(make([]byte, api.Page))
}

// putNumber fills bytes with a number, the highest byte first.
func putNumber(b []byte, n uint64) {
	for i := range b {
		b[len(b)-1-i] = byte(n >> (8 * i))
	}
}

// number is the number that putNumber fills bytes with.
func number(s string) uint64 {
	n := uint64(0)
	for i := range len(s) {
		n = n<<8 | uint64(s[i])
	}
	return n
}

// text is a head's bytes.
func (h head) text() string {
	b := make([]byte, api.Page)
	copy(b, name)
	putNumber(b[serialAt:rootsAt], h.serial)
	for k, id := range h.roots {
		at := rootsAt + 2*k
		putNumber(b[at:at+2], uint64(id))
	}
	copy(b[usedAt:], h.used[:])
	return string(b)
}

// parse is the head that a page 0 tells, if it is right for so many pages.
func parse(text string, pages int) (head, bool) {
	if text == noughts() {
		return newHead(), true
	}
	var h head
	h.serial = number(text[serialAt:rootsAt])
	for k := range h.roots {
		at := rootsAt + 2*k
		h.roots[k] = int(number(text[at : at+2]))
	}
	copy(h.used[:], text[usedAt:])
	if h.text() != text || !h.right(pages) { // what isn't read, the name and the noughts behind, tells itself by its text
		return head{}, false
	}
	return h, true
}

// right tells whether a head may be one of so many pages.
func (h head) right(pages int) bool {
	if h.serial > maxSerial || !h.used.has(0) {
		return false
	}
	for id := pages; id < maxPages; id++ {
		if h.used.has(id) {
			return false
		}
	}
	for _, id := range h.roots {
		if id >= pages || !h.used.has(id) { // a root of 0 is none, and the page 0 is used
			return false
		}
	}
	return true
}
