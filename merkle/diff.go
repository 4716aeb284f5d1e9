package merkle

import (
	"strongroom/api"
	"strongroom/path"
)

// Change is a path whose digest is another one.
type Change struct {
	Path, Old, New string
}

// Diff is what changes one list to another one.
func Diff(a, b []Leaf) []Change {
	if Check(a) != api.OK || Check(b) != api.OK {
		return nil
	}
	var l []Change
	for len(a)+len(b) > 0 {
		c := Change{Path: leastPath(a, b)}
		c.Old, a = take(a, c.Path)
		c.New, b = take(b, c.Path)
		if c.Old != c.New {
			l = append(l, c)
		}
	}
	return l
}

// leastPath is the first path of two lists, one of which has some.
func leastPath(a, b []Leaf) string {
	if len(b) == 0 || len(a) > 0 && a[0].Path < b[0].Path {
		return a[0].Path
	}
	return b[0].Path
}

// take is the digest of a path that isn't ahead of a list's first one (empty, if it isn't there), and what is left behind it.
func take(l []Leaf, p string) (string, []Leaf) {
	if len(l) == 0 || l[0].Path != p {
		return "", l
	}
	return l[0].Sum, l[1:]
}

// Apply changes a list.
func Apply(l []Leaf, c []Change) ([]Leaf, api.Errno) {
	if e := Check(l); e != api.OK {
		return nil, e
	}
	if !goodChanges(c) {
		return nil, api.ErrArg
	}
	var out []Leaf
	for _, x := range c {
		at, _ := find(l, x.Path)
		out = append(out, l[:at]...)
		var old string
		old, l = take(l[at:], x.Path)
		if old != x.Old {
			return nil, api.ErrState
		}
		if x.New != "" {
			out = append(out, Leaf{x.Path, x.New})
		}
	}
	out = append(out, l...)
	if len(out) > api.MaxList {
		return nil, api.ErrLong
	}
	return out, api.OK
}

func goodChanges(c []Change) bool {
	for i, x := range c {
		if !path.Good(x.Path) || i > 0 && c[i-1].Path >= x.Path {
			return false
		}
		if x.Old == x.New || !sumOrNone(x.Old) || !sumOrNone(x.New) {
			return false
		}
	}
	return true
}

func sumOrNone(s string) bool {
	return s == "" || len(s) == sumSize
}
