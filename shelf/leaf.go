package shelf

import (
	"slices"
	"strings"

	"strongroom/api"
	"strongroom/journal"
)

// sizeOf is an entry's size.
func sizeOf(p api.Pair) int {
	return lengths + len(p.Key) + len(p.Value)
}

// newLeaf is a leaf of entries, without the room behind them.
func newLeaf(page int, entries []api.Pair) leaf {
	size := 0
	for _, p := range entries {
		size += sizeOf(p)
	}
	return leaf{page, entries[:len(entries):len(entries)], size}
}

// cut is the entries ahead of a place, and those from it on. The first have their room cut off, for the others stand in it.
func cut(entries []api.Pair, at int) ([]api.Pair, []api.Pair) {
	return entries[:at:at], entries[at:]
}

// part is one leaf of the entries, if they fit into it, else two.
func part(page int, entries []api.Pair) []leaf {
	whole := newLeaf(page, entries)
	if whole.size <= room {
		return []leaf{whole}
	}
	ahead, behind := cut(entries, middle(whole))
	return []leaf{newLeaf(page, ahead), newLeaf(noPage, behind)}
}

// middle is the place at which the greater one of a leaf's two sides is the least. An entry has less than half of the
// room, and a leaf is at most one entry too great: so both sides fit.
func middle(x leaf) int {
	at, ahead := 0, 0
	for 2*ahead < x.size {
		ahead += sizeOf(x.entries[at])
		at++
	}
	if last := sizeOf(x.entries[at-1]); x.size-(ahead-last) < ahead {
		return at - 1
	}
	return at
}

// join is a list of its own, of leaves of which no two side by side fit into one.
func join(l []leaf) []leaf {
	joined := []leaf{l[0]}
	for _, x := range l[1:] {
		last := joined[len(joined)-1]
		if last.size+x.size > room {
			joined = append(joined, x)
			continue
		}
		joined[len(joined)-1] = newLeaf(last.page, append(last.entries, x.entries...))
	}
	return joined
}

// pack is the same entries in as few leaves as can be. A table has room as long as these have, however its leaves came about.
func pack(l []leaf) []leaf {
	var rest []api.Pair
	for _, x := range l {
		rest = append(rest, x.entries...)
	}
	var packed []leaf
	for len(rest) > 0 {
		at, size := 0, 0
		for at < len(rest) && size+sizeOf(rest[at]) <= room {
			size += sizeOf(rest[at])
			at++
		}
		var ahead []api.Pair
		ahead, rest = cut(rest, at)
		packed = append(packed, newLeaf(len(packed), ahead))
	}
	return packed
}

// place gives the one leaf that has no page yet, if there is such, the first page that no leaf has. Where there are no more
// leaves than pages, there is one.
func place(l []leaf) {
	at := leafOf(l, noPage)
	if at < 0 {
		return
	}
	page := 0
	for leafOf(l, page) >= 0 {
		page++
	}
	l[at].page = page
}

// leafOf is where the leaf of a page stands, or below 0.
func leafOf(l []leaf, page int) int {
	return slices.IndexFunc(l, func(x leaf) bool { return x.page == page })
}

// text is a leaf's page.
func (x leaf) text(next int) string {
	b := make([]byte, 0, api.Page)
	b = append(b, byte(next))
	for _, p := range x.entries {
		b = append(b, byte(len(p.Key)), byte(len(p.Value)), byte(len(p.Value)>>8))
		b = append(b, p.Key...)
		b = append(b, p.Value...)
	}
	return string(append(b, make([]byte, api.Page-len(b))...))
}

// load is the leaves that stand in the pages, if there are such as a Commit leaves.
func load(j *journal.Journal) ([]leaf, api.Errno) {
	var l []leaf
	for page := 0; len(l) == 0 || page != 0; {
		if page >= j.Pages() {
			return nil, api.ErrForm
		}
		text, e := j.Read(page)
		if e != api.OK {
			return nil, e
		}
		entries, ok := parse(text[1:])
		x := newLeaf(page, entries)
		if !ok || len(l) > 0 && !follows(x, l[len(l)-1]) {
			return nil, api.ErrForm
		}
		l = append(l, x)
		page = int(text[0])
	}
	return l, api.OK
}

// follows tells whether a leaf may stand behind another one. If all do, keys rise over the whole chain, so that it ends.
func follows(x, last leaf) bool {
	if last.size+x.size <= room { // of which one may be empty
		return false
	}
	return last.entries[len(last.entries)-1].Key < x.entries[0].Key
}

// parse is the entries of a page's text behind its first byte.
func parse(text string) ([]api.Pair, bool) {
	var l []api.Pair
	for len(text) > 0 && text[0] != 0 { // no key has a length of 0
		p, ok := first(text)
		if !ok || len(l) > 0 && l[len(l)-1].Key >= p.Key {
			return nil, false
		}
		l = append(l, p)
		text = text[sizeOf(p):]
	}
	return l, strings.Trim(text, "\x00") == ""
}

// first is the entry with which a text begins.
func first(text string) (api.Pair, bool) {
	if len(text) < lengths {
		return api.Pair{}, false
	}
	key := lengths
	value := key + int(text[0])
	end := value + int(text[1]) + int(text[2])<<8
	if value-key > api.MaxKey || end-value > api.MaxValue || end > len(text) {
		return api.Pair{}, false
	}
	return api.Pair{Key: text[key:value], Value: text[value:end]}, true
}
