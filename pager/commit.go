package pager

import (
	"maps"
	"slices"

	"strongroom/api"
	"strongroom/journal"
)

// Save makes a savepoint.
func (p *Pager) Save() (int, api.Errno) {
	switch {
	case p == nil:
		return 0, api.ErrArg
	case len(p.saves) == maxSaves:
		return 0, api.ErrFull
	}
	p.saves = append(p.saves, state{p.now.head, maps.Clone(p.now.written)})
	return len(p.saves) - 1, api.OK
}

// Back goes back to a savepoint.
func (p *Pager) Back(n int) api.Errno {
	switch {
	case p == nil:
		return api.ErrArg
	case n < 0 || n >= len(p.saves):
		return api.ErrNone
	}
	p.now = p.saves[n] // the savepoint is gone, so its map needs no clone
	p.saves = slices.Delete(p.saves, n, len(p.saves))
	return api.OK
}

// Changed is the pages that a commit would change.
func (p *Pager) Changed() []int {
	if p == nil {
		return nil
	}
	l := []int{0}
	for id := 1; id < p.Pages(); id++ {
		if p.Used(id) && p.otherPage(id) {
			l = append(l, id)
		}
	}
	if len(l) == 1 && !p.otherHead() { // where any page changes, the head does too, as it has the serial
		return nil
	}
	return l
}

// otherPage tells whether a page is to have other bytes than stand on the disk. These are looked at, not those that are
// kept: what was written may be what is there already, and others may have changed the journal's pages.
func (p *Pager) otherPage(id int) bool {
	c, written := p.now.written[id]
	if !written && !p.torn.has(id) {
		return false
	}
	want := p.kept[id]
	if written {
		want = c.Data
	}
	stands, e := p.journal.Read(id)
	if e != api.OK { // the disk is down
		stands = p.kept[id]
	}
	return want != stands
}

// otherHead tells whether the head is to be another one than the good one; behind a Commit that was broken off, than the
// one that stands on the disk, which may be that Commit's.
func (p *Pager) otherHead() bool {
	good := p.good
	if p.torn.has(0) {
		if text, e := p.journal.Read(0); e == api.OK {
			good, _ = parse(text, p.Pages()) // of what isn't right: a head that no pager has
		}
	}
	return p.now.head != good
}

// Commit has all good.
func (p *Pager) Commit() api.Errno {
	if e := p.off(); e != api.OK {
		return e
	}
	if l := p.Changed(); len(l) > 0 {
		if e := p.store(l); e != api.OK {
			return e
		}
	}
	p.keep()
	p.good = p.now.head
	p.reset()
	return api.OK
}

// keep takes what the disk has of the pages that may be others there than they were when they were kept.
func (p *Pager) keep() {
	for id := range p.kept {
		if _, written := p.now.written[id]; !written && !p.torn.has(id) {
			continue
		}
		if text, e := p.journal.Read(id); e == api.OK {
			p.kept[id] = text
		}
	}
	p.torn = pageSet{}
}

// Abort has all as it was.
func (p *Pager) Abort() {
	if p.off() == api.OK {
		p.reset()
	}
}

// off is why nothing can be committed or aborted, or OK.
func (p *Pager) off() api.Errno {
	if p == nil {
		return api.ErrArg
	}
	return p.journal.Commit(nil) // nothing is written, but a disk that is down tells so
}

// reset has all as it was when it was good, and no savepoints.
func (p *Pager) reset() {
	p.now = unchanged(p.good)
	p.saves = nil
}

// store has the pages that are changed, of which the head is one, on the disk.
func (p *Pager) store(ids []int) api.Errno {
	next := p.now.head
	if next.serial == maxSerial {
		return api.ErrFull
	}
	next.serial++
	l := []journal.Change{{Page: 0, Data: next.text()}}
	for _, id := range ids[1:] {
		text, e := p.Read(id)
		if e != api.OK {
			return e
		}
		l = append(l, journal.Change{Page: id, Data: text})
	}
	if e := p.journal.Commit(l); e != api.OK {
		for _, id := range ids {
			p.torn.add(id)
		}
		return e
	}
	p.now.head = next
	return api.OK
}
