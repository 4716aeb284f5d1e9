package chunk

import (
	"fmt"
	"slices"
	"testing"
)

// Promise 17.3

func mustCommon(t *testing.T, a, b []string, ahead, behind int) {
	t.Helper()
	x, y := Common(a, b)
	if x != ahead || y != behind {
		t.Fatalf("Common(%q, %q): %d, %d, not %d, %d", a, b, x, y, ahead, behind)
	}
}

func TestCommon(t *testing.T) {
	l := func(s ...string) []string { return s }
	mustCommon(t, l("a", "b", "c"), l("a", "x", "c"), 1, 1)
	mustCommon(t, nil, nil, 0, 0)
	mustCommon(t, nil, []string{}, 0, 0)
	mustCommon(t, nil, l("a"), 0, 0)
	mustCommon(t, l(""), nil, 0, 0)
	mustCommon(t, l(""), l(""), 1, 0)
	mustCommon(t, l("a"), l("a"), 1, 0)
	mustCommon(t, l("a"), l("b"), 0, 0)
	mustCommon(t, l("a", "b"), l("a", "b"), 2, 0)
	mustCommon(t, l("a", "a", "a"), l("a", "a"), 2, 0) // what is counted ahead isn't counted behind
	mustCommon(t, l("a", "a"), l("a", "a", "a"), 2, 0)
	mustCommon(t, l("a", "b", "a"), l("a"), 1, 0)
	mustCommon(t, l("a", "b", "a"), l("a", "a"), 1, 1)
	mustCommon(t, l("x", "b", "c"), l("b", "c"), 0, 2)
	mustCommon(t, l("b", "c"), l("x", "b", "c"), 0, 2)
	mustCommon(t, l("ab", "c"), l("a", "bc"), 0, 0) // chunks are held against each other, not bytes
	mustCommon(t, l("a", "b", "c", "d", "e"), l("a", "b", "y", "z", "x", "e"), 2, 1)
}

// eachList is every list of up to so many of three chunks.
func eachList(most int, visit func(l []string)) {
	eachText(most, "abc", func(text string) {
		l := make([]string, len(text))
		for i := range l {
			l[i] = text[i : i+1]
		}
		visit(l)
	})
}

// plainCommon tries the greatest numbers first.
func plainCommon(a, b []string) (ahead, behind int) {
	least := min(len(a), len(b))
	for ahead = least; !slices.Equal(a[:ahead], b[:ahead]); ahead-- {
	}
	a, b = a[ahead:], b[ahead:]
	for behind = least - ahead; !slices.Equal(a[len(a)-behind:], b[len(b)-behind:]); behind-- {
	}
	return ahead, behind
}

func TestCommonOfEachTwoLists(t *testing.T) {
	eachList(5, func(a []string) {
		eachList(5, func(b []string) {
			x, y := slices.Clone(a), slices.Clone(b)
			ahead, behind := plainCommon(a, b)
			mustCommon(t, a, b, ahead, behind)
			mustList(t, fmt.Sprintf("Common(%q, %q): the first list", x, y), a, x)
			mustList(t, fmt.Sprintf("Common(%q, %q): the second list", x, y), b, y)
		})
	})
}

func TestCommonOfLongLists(t *testing.T) {
	l := make([]string, 20000)
	for i := range l {
		l[i] = fmt.Sprint(i % 7)
	}
	mustCommon(t, l, slices.Clone(l), len(l), 0)
	mustCommon(t, l, l[:9000], 9000, 0)
	other := slices.Clone(l)
	other[12345] = "x"
	mustCommon(t, l, other, 12345, len(l)-12346)
}
