package merkle

import (
	"crypto/sha256"
	"fmt"
	"math/rand"
	"regexp"
	"slices"
	"sort"
	"strings"
	"testing"

	"strongroom/api"
)

// What the chapter's words say, as plainly as may be.

var plainNames = regexp.MustCompile(`^[a-z0-9._-]{1,12}(/[a-z0-9._-]{1,12})*$`)

func plainPath(p string) bool {
	for _, s := range strings.Split(p, "/") {
		if s == "." || s == ".." {
			return false
		}
	}
	return len(p) <= 32 && plainNames.MatchString(p)
}

func plainLeaf(x Leaf) bool {
	return plainPath(x.Path) && len(x.Sum) == 32
}

func plainList(l []Leaf) bool {
	for i, x := range l {
		if !plainLeaf(x) {
			return false
		}
		for _, y := range l[:i] {
			if y.Path >= x.Path {
				return false
			}
		}
	}
	return len(l) <= 1024
}

func plainSum(parts ...string) string {
	d := sha256.Sum256([]byte(strings.Join(parts, "")))
	return string(d[:])
}

// plainLeafSum leans on paths being shorter than 128 bytes: the number of their bytes is one byte.
func plainLeafSum(x Leaf) string {
	return plainSum("\x00", string([]byte{byte(len(x.Path))}), x.Path, x.Sum)
}

// plainFirst is the k of the chapter.
func plainFirst(n int) int {
	for k := 1 << 20; ; k /= 2 {
		if k < n {
			return k
		}
	}
}

func plainDigest(l []Leaf) string {
	switch len(l) {
	case 0:
		return plainSum("\x02")
	case 1:
		return plainLeafSum(l[0])
	}
	k := plainFirst(len(l))
	return plainSum("\x01", plainDigest(l[:k]), plainDigest(l[k:]))
}

// plainTurns tells for each part that holds a place, the whole first, whether the place is among its first ones.
func plainTurns(n, i int) []bool {
	var turns []bool
	for n > 1 {
		k := plainFirst(n)
		turns = append(turns, i < k)
		if i < k {
			n = k
		} else {
			n, i = n-k, i-k
		}
	}
	return turns
}

func plainProof(l []Leaf, i int) []string {
	var whole []string
	for _, first := range plainTurns(len(l), i) {
		k := plainFirst(len(l))
		if first {
			whole = append(whole, plainDigest(l[k:]))
			l = l[:k]
		} else {
			whole = append(whole, plainDigest(l[:k]))
			l = l[k:]
		}
	}
	slices.Reverse(whole)
	return whole
}

// plainRoot is what comes of a leaf at a place and of as many digests as its proof has.
func plainRoot(n, i int, x Leaf, proof []string) string {
	turns := plainTurns(n, i)
	slices.Reverse(turns)
	sum := plainLeafSum(x)
	for j, first := range turns {
		if first {
			sum = plainSum("\x01", sum, proof[j])
		} else {
			sum = plainSum("\x01", proof[j], sum)
		}
	}
	return sum
}

func plainVerify(root string, n, i int, x Leaf, proof []string) bool {
	if !plainLeaf(x) || n < 1 || n > 1024 || i < 0 || i > n-1 {
		return false
	}
	if len(proof) != len(plainTurns(n, i)) {
		return false
	}
	for _, s := range proof {
		if len(s) != 32 {
			return false
		}
	}
	return root == plainRoot(n, i, x, proof)
}

func plainMissing(root string, n int, p string, a Absence) bool {
	if !plainPath(p) || n < 0 || n > 1024 || a.At < 0 || a.At > n {
		return false
	}
	if n == 0 && root != plainSum("\x02") {
		return false
	}
	left := a.Left.Path == "" && a.Left.Sum == "" && len(a.Ahead) == 0
	if a.At > 0 {
		left = a.Left.Path < p && plainVerify(root, n, a.At-1, a.Left, a.Ahead)
	}
	right := a.Right.Path == "" && a.Right.Sum == "" && len(a.Behind) == 0
	if a.At < n {
		right = p < a.Right.Path && plainVerify(root, n, a.At, a.Right, a.Behind)
	}
	return left && right
}

// sumOf is some digest that hangs on a text.
func sumOf(s string) string {
	return plainSum("sum of ", s)
}

// leaves is a list of those paths, which are handed in as they rise.
func leaves(paths ...string) []Leaf {
	var l []Leaf
	for _, p := range paths {
		l = append(l, Leaf{p, sumOf(p)})
	}
	return l
}

// many is a list of n leaves.
func many(n int) []Leaf {
	var l []Leaf
	for i := range n {
		l = append(l, leaves(fmt.Sprintf("n%04d", i))...)
	}
	return l
}

// randomList is at most so many leaves, with few paths and fewer digests, such that two lists have much in common.
func randomList(r *rand.Rand, most int) []Leaf {
	sums := map[string]string{}
	for range r.Intn(most + 1) {
		sums[fmt.Sprintf("p%d", r.Intn(2*most))] = sumOf(fmt.Sprint(r.Intn(2)))
	}
	return listOf(sums)
}

// listOf is the list of paths and their digests.
func listOf(sums map[string]string) []Leaf {
	var l []Leaf
	for p, s := range sums {
		l = append(l, Leaf{p, s})
	}
	sort.Slice(l, func(i, j int) bool { return l[i].Path < l[j].Path })
	return l
}

// sumsOf is a list's paths and their digests.
func sumsOf(l []Leaf) map[string]string {
	sums := map[string]string{}
	for _, x := range l {
		sums[x.Path] = x.Sum
	}
	return sums
}

// badLeaves are no leaves, each for one cause.
func badLeaves() map[string]Leaf {
	sum := sumOf("x")
	return map[string]Leaf{
		"no path":             {"", sum},
		"a name of 13 bytes":  {"abcdefghijklm", sum},
		"a path of 33 bytes":  {"abcdefghijkl/abcdefghijkl/abcdefg", sum},
		"a great letter":      {"A", sum},
		"a point":             {"a/./b", sum},
		"two points":          {"..", sum},
		"a slash ahead":       {"/m", sum},
		"a slash behind":      {"m/", sum},
		"two slashes":         {"m//m", sum},
		"no digest":           {"m", ""},
		"a digest of 31":      {"m", sum[1:]},
		"a digest of 33":      {"m", sum + "x"},
		"a digest in letters": {"m", fmt.Sprintf("%x", sum)},
	}
}

// badLists are no lists, each for one cause, with what Check tells of them.
func badLists() map[string]struct {
	l    []Leaf
	want api.Errno
} {
	type bad = struct {
		l    []Leaf
		want api.Errno
	}
	lists := map[string]bad{
		"1025 leaves":             {many(1025), api.ErrLong},
		"1025 times one leaf":     {slices.Repeat(leaves("a"), 1025), api.ErrLong},
		"1025 times no leaf":      {make([]Leaf, 1025), api.ErrLong},
		"a path twice":            {leaves("a", "b", "b"), api.ErrArg},
		"a path twice, otherwise": {[]Leaf{{"a", sumOf("a")}, {"a", sumOf("b")}}, api.ErrArg},
		"paths that fall":         {leaves("b", "a"), api.ErrArg},
		"the last two fall":       {leaves("a", "b", "d", "c"), api.ErrArg},
		"the first two fall":      {leaves("b", "a", "c", "d"), api.ErrArg},
		"1024 times one leaf":     {slices.Repeat(leaves("a"), 1024), api.ErrArg},
	}
	for what, x := range badLeaves() {
		lists[what] = bad{[]Leaf{x}, api.ErrArg}
		if x.Path > "b" && x.Path < "y" {
			lists[what+", first"] = bad{append([]Leaf{x}, leaves("y", "z")...), api.ErrArg}
			lists[what+", last"] = bad{append(leaves("a", "b"), x), api.ErrArg}
		}
	}
	return lists
}

func must(t *testing.T, what string, e, want api.Errno) {
	t.Helper()
	if e != want {
		t.Fatalf("%s: %v, not %v", what, e, want)
	}
}

// mustBe holds a list against the one that is asked for; nil and empty are one.
func mustBe[T comparable](t *testing.T, what string, got, want []T) {
	t.Helper()
	if !slices.Equal(got, want) {
		t.Fatalf("%s: %.400q, not %.400q", what, fmt.Sprint(got), fmt.Sprint(want))
	}
}

// roomy is a list with room behind it, in which another one's things stand: who writes there is found out by intact.
func roomy[T any](l []T, behind T) []T {
	out := make([]T, 0, len(l)+8)
	out = append(out, l...)
	for range 8 {
		out = append(out, behind)
	}
	return out[:len(l)]
}

// intact tells whether a roomy list and its room are as they were.
func intact[T comparable](roomy, l []T, behind T) bool {
	whole := roomy[:len(l)+8]
	for _, x := range whole[len(l):] {
		if x != behind {
			return false
		}
	}
	return slices.Equal(whole[:len(l)], l)
}
