package btree

import (
	"cmp"
	"slices"
	"strings"

	"strongroom/api"
)

const (
	leafKind  = 1 // a page's first byte
	innerKind = 2

	leafHead  = 3 // bytes ahead of a leaf's entries: the kind, and how many there are
	innerHead = 5 // of an inner page: the first page below it too
	lengths   = 3 // bytes ahead of an item's own: two numbers
)

// item is an entry of a leaf, or a key of an inner page with the page that stands behind it.
type item struct {
	key   string
	value string // of a leaf
	page  int    // of an inner page
}

// node is what a page has. Lists of items are never written to: what is changed is a list of its own.
type node struct {
	id    int // the page; 0, if it has none yet
	inner bool
	first int // the first page below an inner one
	items []item
}

// may tells whether there are such a key and such a value.
func may(key, value string) bool {
	return len(key) >= 1 && len(key) <= api.MaxKey && len(value) <= api.MaxValue
}

// size is how many bytes of a page an item takes.
func (x item) size() int {
	return lengths + len(x.key) + len(x.value)
}

// pair is an entry as it is told: without the page's other bytes in its memory.
func (x item) pair() api.Pair {
	return api.Pair{Key: strings.Clone(x.key), Value: strings.Clone(x.value)}
}

// sizes is how many bytes of a page items take.
func sizes(l []item) int {
	n := 0
	for _, x := range l {
		n += x.size()
	}
	return n
}

// swap is items with others in place of those from one place up to another one.
func swap(l []item, from, to int, others ...item) []item {
	return append(append(l[:from:from], others...), l[to:]...)
}

// head is how many bytes stand ahead of a node's items.
func (n node) head() int {
	if n.inner {
		return innerHead
	}
	return leafHead
}

// size is how many bytes of a page a node takes.
func (n node) size() int {
	return n.head() + sizes(n.items)
}

// empty tells whether a node has neither an entry nor a page below it.
func (n node) empty() bool {
	return n.first == 0 && len(n.items) == 0
}

// bare tells whether a node has but one page below it, and hence no key.
func (n node) bare() bool {
	return n.first != 0 && len(n.items) == 0
}

// same tells whether two nodes have the same.
func (n node) same(m node) bool {
	return n.first == m.first && slices.Equal(n.items, m.items)
}

// below is how many pages stand below a node.
func (n node) below() int {
	if n.inner {
		return len(n.items) + 1
	}
	return 0
}

// page is one of the pages below an inner node, from 0 on.
func (n node) page(at int) int {
	if at == 0 {
		return n.first
	}
	return n.items[at-1].page
}

// without is an inner node from which one of the pages below it is gone, and a key beside it, if there is one.
func (n node) without(at int) node {
	switch {
	case at > 0:
		n.items = swap(n.items, at-1, at)
	case len(n.items) > 0:
		n.first, n.items = n.items[0].page, n.items[1:]
	default:
		n.first = 0
	}
	return n
}

// find is the place of a key among a node's own, or where it would be, and whether it is there.
func (n node) find(key string) (int, bool) {
	return slices.BinarySearchFunc(n.items, key, func(x item, key string) int { return cmp.Compare(x.key, key) })
}

// behind is how many of a node's keys aren't above a key: the place of the page below it that has this key.
func (n node) behind(key string) int {
	at, there := n.find(key)
	if there {
		at++
	}
	return at
}

// part is the two sides of a node that is too long for a page, and a key between them. An entry takes less than half of a
// page, and a node is at most one item too long: so both sides fit.
func (n node) part() (node, string, node) {
	at := middle(n.items)
	left, right := n, node{inner: n.inner, items: n.items[at:]}
	left.items = n.items[:at:at]
	if !n.inner {
		return left, between(n.items[at-1].key, n.items[at].key), right
	}
	right.first, right.items = n.items[at].page, n.items[at+1:]
	return left, n.items[at].key, right
}

// middle is the place at which the greater one of a list's two sides is the least.
func middle(l []item) int {
	all := sizes(l)
	at, ahead := 0, 0
	for 2*ahead < all {
		ahead += l[at].size()
		at++
	}
	if last := l[at-1].size(); all-(ahead-last) < ahead {
		return at - 1
	}
	return at
}

// between is the shortest beginning of a key that is above a lesser one: the less there is of keys, the more pages stand
// below one.
func between(lesser, key string) string {
	at := 0
	for at < len(lesser) && lesser[at] == key[at] {
		at++
	}
	return key[:at+1]
}

// join is one node of two that stand side by side, and the key between them.
func join(left node, key string, right node) node {
	l := left.items[:len(left.items):len(left.items)]
	if left.inner {
		l = append(l, item{key: key, page: right.first})
	}
	left.items = append(l, right.items...)
	return left
}

// text is a node's page.
func (n node) text() string {
	b := make([]byte, 0, api.Page)
	if n.inner {
		b = appendNumber(append(b, innerKind), len(n.items))
		b = appendNumber(b, n.first)
	} else {
		b = appendNumber(append(b, leafKind), len(n.items))
	}
	for _, x := range n.items {
		second := len(x.value)
		if n.inner {
			second = x.page
		}
		b = appendNumber(append(b, byte(len(x.key))), second)
		b = append(b, x.key...)
		b = append(b, x.value...)
	}
	return string(b) + strings.Repeat("\x00", api.Page-len(b))
}

// appendNumber adds a number's two bytes, the highest first.
func appendNumber(b []byte, n int) []byte {
	return append(b, byte(n>>8), byte(n))
}

// number is the number of two bytes.
func number(s string) int {
	return int(s[0])<<8 | int(s[1])
}

// parse is what a page has, if it is such a one.
func parse(id int, text string) (node, bool) {
	n := node{id: id, inner: text[0] == innerKind}
	count := number(text[1:])
	switch {
	case n.inner:
		n.first = number(text[leafHead:])
	case text[0] != leafKind || count == 0: // a leaf has entries: an empty table has no page
		return node{}, false
	}
	rest := text[n.head():]
	for range count {
		x, ok := n.parseItem(rest)
		if !ok || len(n.items) > 0 && n.items[len(n.items)-1].key >= x.key {
			return node{}, false
		}
		n.items = append(n.items, x)
		rest = rest[x.size():]
	}
	return n, strings.Trim(rest, "\x00") == ""
}

// parseItem is the item of a node with which a text begins.
func (n node) parseItem(text string) (item, bool) {
	if len(text) < lengths {
		return item{}, false
	}
	x := item{}
	keyEnd := lengths + int(text[0])
	end := keyEnd
	if n.inner {
		x.page = number(text[1:])
	} else {
		end += number(text[1:])
	}
	if end > len(text) {
		return item{}, false
	}
	x.key, x.value = text[lengths:keyEnd], text[keyEnd:end]
	return x, may(x.key, x.value)
}
