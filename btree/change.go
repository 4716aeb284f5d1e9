package btree

import "strongroom/api"

// Put gives a key a value.
func (t *Tree) Put(key, value string) api.Errno {
	if t == nil || !may(key, value) {
		return api.ErrArg
	}
	height, _ := t.height(key) // where a page can't be told, it is as high at least
	if t.pager.Free() < height+1 {
		return api.ErrFull
	}
	return t.change(key, func(n node) node {
		at, there := n.find(key)
		end := at
		if there {
			end++
		}
		n.items = swap(n.items, at, end, item{key: key, value: value})
		return n
	})
}

// Drop takes a key away.
func (t *Tree) Drop(key string) bool {
	if t == nil {
		return false
	}
	dropped := false
	t.change(key, func(n node) node {
		at, there := n.find(key)
		if there {
			n.items = swap(n.items, at, at+1)
		}
		dropped = there
		return n
	})
	return dropped
}

// Clear takes all away.
func (t *Tree) Clear() {
	if t == nil {
		return
	}
	var ids []int
	if e := t.each(func(n node) { ids = append(ids, n.id) }); e != api.OK {
		return // pages would be lost that are neither free nor below a root
	}
	t.pager.Point(t.root, 0)
	for _, id := range ids {
		t.pager.Give(id)
	}
}

// change has the leaf changed that has a key, or would have it; the pages above it follow. On the way down pages are read,
// on the way up they are written: where one can't be read, nothing is changed yet.
func (t *Tree) change(key string, do func(leaf node) node) api.Errno {
	w := t.walk()
	var follow func(n node) node
	follow = func(n node) node {
		if !n.inner {
			return do(n)
		}
		at := n.behind(key)
		child, ok := w.load(n.page(at))
		if !ok {
			return n
		}
		return t.settle(n, at, child, follow(child))
	}
	var was node
	if id := t.top(); id != 0 {
		was, _ = w.load(id)
	}
	if w.e != api.OK {
		return w.e
	}
	if now := follow(was); !now.same(was) {
		t.plant(now)
	}
	return w.e
}

// plant has a changed page as the root.
func (t *Tree) plant(now node) {
	if len(now.items) == 0 { // at most one page is left below it, and that one does as the root
		t.pager.Point(t.root, now.first)
		t.pager.Give(now.id)
		return
	}
	if now.size() > api.Page {
		left, key, right := now.part()
		now = node{inner: true, first: t.store(left), items: []item{{key: key, page: t.store(right)}}}
	}
	t.pager.Point(t.root, t.store(now))
}

// settle is a node behind a change of one of the pages below it: what is empty there goes, and what is too long is parted.
func (t *Tree) settle(n node, at int, was, now node) node {
	switch {
	case now.same(was):
		return n
	case now.empty():
		t.pager.Give(now.id)
		return n.without(at)
	case now.size() > api.Page:
		left, key, right := now.part()
		t.store(left)
		n.items = swap(n.items, at, at, item{key: key, page: t.store(right)})
		return n
	}
	t.store(now)
	if now.size() < was.size() {
		return t.tidy(n, at)
	}
	return n
}

// store writes a node to its page, or to a new one, which there is: Put asked for as many as it may need.
func (t *Tree) store(n node) int {
	if n.id == 0 {
		n.id, _ = t.pager.Alloc()
	}
	t.pager.Write(n.id, n.text())
	return n.id
}

// tidy is a node behind one of the pages below it became shorter: that one is put together with one beside it, if they fit
// into one page; if not, and it has no key any more, it gets some of these.
func (t *Tree) tidy(n node, at int) node {
	for _, way := range []func(n node, at int) (node, bool){t.joined, t.evened} {
		for i := max(at-1, 0); i <= at && i < len(n.items); i++ {
			if m, ok := way(n, i); ok {
				return m
			}
		}
	}
	return n
}

// joined is a node of which the two pages beside a key have become one, if that may be.
func (t *Tree) joined(n node, at int) (node, bool) {
	left, right, ok := t.beside(n, at)
	if !ok {
		return n, false
	}
	whole := join(left, n.items[at].key, right)
	if whole.size() > api.Page {
		return n, false
	}
	t.store(whole)
	t.pager.Give(right.id)
	return n.without(at + 1), true
}

// evened is a node of which the two pages beside a key, one of them a bare one, have been parted anew, if the key that is
// between them then has room. It needs no page more, for a Drop may come to it.
func (t *Tree) evened(n node, at int) (node, bool) {
	left, right, ok := t.beside(n, at)
	if !ok || !left.bare() && !right.bare() {
		return n, false
	}
	first, key, second := join(left, n.items[at].key, right).part()
	second.id = right.id
	m := n
	m.items = swap(n.items, at, at+1, item{key: key, page: second.id})
	if m.size() > api.Page {
		return n, false
	}
	t.store(first)
	t.store(second)
	return m, true
}

// beside is the two pages beside a key, if both can be read, and are of one kind.
func (t *Tree) beside(n node, at int) (node, node, bool) {
	left, e := read(t.pager, n.page(at))
	if e != api.OK {
		return node{}, node{}, false
	}
	right, e := read(t.pager, n.page(at+1))
	return left, right, e == api.OK && left.inner == right.inner
}
