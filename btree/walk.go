package btree

import (
	"strongroom/api"
	"strongroom/pager"
)

// read is what a page has.
func read(p *pager.Pager, id int) (node, api.Errno) {
	text, e := p.Read(id)
	switch e {
	case api.OK:
	case api.ErrDown:
		return node{}, e
	default: // there is no such page, or it is free
		return node{}, api.ErrForm
	}
	n, ok := parse(id, text)
	if !ok {
		return node{}, api.ErrForm
	}
	return n, api.OK
}

// walk is one going over a tree's pages. It reads none of them twice: so it ends, whatever they have.
type walk struct {
	pager *pager.Pager
	seen  map[int]int // how often each page was asked for
	e     api.Errno   // why a page can't be told
}

// walk begins to go over a tree's pages.
func (t *Tree) walk() *walk {
	return &walk{pager: t.pager, seen: map[int]int{}}
}

// fail keeps an error: that of pages that aren't right, if there are both.
func (w *walk) fail(e api.Errno) {
	if w.e != api.ErrForm {
		w.e = e
	}
}

// load is what a page has; nothing, as an empty leaf, if that can't be told.
func (w *walk) load(id int) (node, bool) {
	w.seen[id]++
	if w.seen[id] > 1 {
		w.fail(api.ErrForm)
		return node{}, false
	}
	n, e := read(w.pager, id)
	if e != api.OK {
		w.fail(e)
	}
	return n, e == api.OK
}

// each goes over all pages of a tree, a page ahead of those below it.
func (t *Tree) each(look func(n node)) api.Errno {
	w := t.walk()
	var visit func(id int)
	visit = func(id int) {
		n, _ := w.load(id)
		look(n)
		for at := range n.below() {
			visit(n.page(at))
		}
	}
	if id := t.top(); id != 0 {
		visit(id)
	}
	return w.e
}

// height is how many pages lie one below the other, down to the leaf that has a key, or would have it; beside an error,
// down to the page that can't be told.
func (t *Tree) height(key string) (int, api.Errno) {
	w := t.walk()
	var deep func(id int) int
	deep = func(id int) int {
		n, _ := w.load(id)
		if n.inner {
			return 1 + deep(n.page(n.behind(key)))
		}
		return 1
	}
	if t.top() == 0 {
		return 0, api.OK
	}
	return deep(t.top()), w.e
}
