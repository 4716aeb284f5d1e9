package merkle

import (
	"fmt"
	"math/rand"
	"slices"
	"sort"
	"testing"

	"strongroom/api"
)

// plainDiff is the chapter's words over maps.
func plainDiff(a, b []Leaf) []Change {
	olds, news := sumsOf(a), sumsOf(b)
	var paths []string
	for p := range olds {
		paths = append(paths, p)
	}
	for p := range news {
		paths = append(paths, p)
	}
	sort.Strings(paths)
	var l []Change
	for _, p := range slices.Compact(paths) {
		if olds[p] != news[p] {
			l = append(l, Change{p, olds[p], news[p]})
		}
	}
	return l
}

// mustApply changes a list by what should change it.
func mustApply(t *testing.T, what string, l []Leaf, c []Change, want []Leaf) {
	t.Helper()
	got, e := Apply(l, c)
	must(t, "Apply of "+what, e, api.OK)
	mustBe(t, "Apply of "+what, got, want)
}

// mustNotApply holds that nothing comes but an error.
func mustNotApply(t *testing.T, what string, l []Leaf, c []Change, want api.Errno) {
	t.Helper()
	got, e := Apply(l, c)
	must(t, "Apply of "+what, e, want)
	mustBe(t, "Apply of "+what, got, nil)
}

// Promise 20.4: Diff

func TestDiff(t *testing.T) {
	a, b, c := sumOf("a"), sumOf("b"), sumOf("c")
	for _, x := range []struct {
		a, b []Leaf
		want []Change
	}{
		{nil, nil, nil},
		{nil, []Leaf{{"a", a}}, []Change{{"a", "", a}}},
		{[]Leaf{{"a", a}}, nil, []Change{{"a", a, ""}}},
		{[]Leaf{{"a", a}}, []Leaf{{"a", a}}, nil},
		{[]Leaf{{"a", a}}, []Leaf{{"a", b}}, []Change{{"a", a, b}}},
		{[]Leaf{{"a", a}}, []Leaf{{"b", a}}, []Change{{"a", a, ""}, {"b", "", a}}},
		{[]Leaf{{"b", a}}, []Leaf{{"a", a}}, []Change{{"a", "", a}, {"b", a, ""}}},
		{
			[]Leaf{{"a", a}, {"a/b", b}, {"c", c}, {"d", a}},
			[]Leaf{{"a-b", a}, {"a/b", b}, {"c", a}, {"e", a}, {"f", b}},
			[]Change{{"a", a, ""}, {"a-b", "", a}, {"c", c, a}, {"d", a, ""}, {"e", "", a}, {"f", "", b}},
		},
	} {
		mustBe(t, fmt.Sprintf("Diff of %d and %d", len(x.a), len(x.b)), Diff(x.a, x.b), x.want)
	}
}

func TestDiffIsWhatTheWordsSay(t *testing.T) {
	r := rand.New(rand.NewSource(204))
	for range 3000 {
		a, b := randomList(r, 12), randomList(r, 12)
		mustBe(t, "Diff", Diff(a, b), plainDiff(a, b))
	}
}

func TestDiffOfLongLists(t *testing.T) {
	l := many(1024)
	mustBe(t, "Diff of one list", Diff(l, l), nil)
	mustBe(t, "Diff to nothing", Diff(l, nil), plainDiff(l, nil))
	others := many(1024)
	for i := range others {
		others[i].Path += "-"
	}
	if d := Diff(l, others); len(d) != 2048 {
		t.Errorf("Diff of lists with nothing in common: %d changes", len(d))
	}
}

func TestDiffOfNoList(t *testing.T) {
	for what, c := range badLists() {
		for _, l := range [][]Leaf{nil, known(), c.l} {
			mustBe(t, "Diff of "+what, Diff(c.l, l), nil)
			mustBe(t, "Diff to "+what, Diff(l, c.l), nil)
		}
	}
}

// Promise 20.4: Apply

func TestApply(t *testing.T) {
	a, b := sumOf("a"), sumOf("b")
	l := []Leaf{{"b", a}, {"d", a}, {"f", a}}
	for _, x := range []struct {
		what string
		c    []Change
		want []Leaf
	}{
		{"nothing", nil, l},
		{"a leaf ahead", []Change{{"a", "", b}}, []Leaf{{"a", b}, {"b", a}, {"d", a}, {"f", a}}},
		{"a leaf between", []Change{{"c", "", b}}, []Leaf{{"b", a}, {"c", b}, {"d", a}, {"f", a}}},
		{"a leaf behind", []Change{{"g", "", b}}, []Leaf{{"b", a}, {"d", a}, {"f", a}, {"g", b}}},
		{"another digest", []Change{{"d", a, b}}, []Leaf{{"b", a}, {"d", b}, {"f", a}}},
		{"a leaf less", []Change{{"d", a, ""}}, []Leaf{{"b", a}, {"f", a}}},
		{"the first one less", []Change{{"b", a, ""}}, []Leaf{{"d", a}, {"f", a}}},
		{"the last one less", []Change{{"f", a, ""}}, []Leaf{{"b", a}, {"d", a}}},
		{"all less", []Change{{"b", a, ""}, {"d", a, ""}, {"f", a, ""}}, nil},
		{"all at once", []Change{{"a", "", b}, {"b", a, b}, {"c", "", a}, {"d", a, ""}, {"e", "", b}, {"e/e", "", b}, {"f", a, b}, {"g", "", a}},
			[]Leaf{{"a", b}, {"b", b}, {"c", a}, {"e", b}, {"e/e", b}, {"f", b}, {"g", a}}},
	} {
		mustApply(t, x.what, l, x.c, x.want)
	}
	mustApply(t, "nothing to nothing", nil, nil, nil)
	mustApply(t, "a leaf to nothing", nil, []Change{{"a", "", b}}, []Leaf{{"a", b}})
}

// badChanges are refused whatever the list is, each for one cause.
func badChanges() map[string][]Change {
	a, b := sumOf("a"), sumOf("b")
	bad := map[string][]Change{
		"a path twice":           {{"a", "", a}, {"a", a, b}},
		"a path there and back":  {{"a", "", a}, {"a", a, ""}},
		"paths that fall":        {{"b", "", a}, {"a", "", a}},
		"the last two fall":      {{"a", "", a}, {"c", "", a}, {"b", "", a}},
		"nothing for nothing":    {{"a", "", ""}},
		"a digest for itself":    {{"a", a, a}},
		"old of 31 bytes":        {{"a", a[1:], b}},
		"old of 33 bytes":        {{"a", a + "x", b}},
		"old of a byte, to none": {{"a", "x", ""}},
		"new of 31 bytes":        {{"a", "", a[1:]}},
		"new of 33 bytes":        {{"a", "", a + "x"}},
		"new of a byte":          {{"a", a, "x"}},
		"both of 31 bytes":       {{"a", a[1:], b[1:]}},
		"a good one ahead":       {{"a", "", a}, {"b", "", ""}},
		"a good one behind":      {{"a", "", ""}, {"b", "", a}},
	}
	for _, p := range []string{"", "/", "a/", "/a", "A", ".", "..", "a//b", "abcdefghijklm", "abcdefghijkl/abcdefghijkl/abcdefg", "\xff"} {
		bad[fmt.Sprintf("the path %q", p)] = []Change{{p, "", a}}
	}
	return bad
}

func TestApplyRefusesWhatAreNoChanges(t *testing.T) {
	for what, c := range badChanges() {
		for _, l := range [][]Leaf{nil, leaves("a"), leaves("c"), known(), many(1024)} { // ahead of ErrState and of ErrLong
			mustNotApply(t, what, l, c, api.ErrArg)
		}
		mustNotApply(t, what+", behind what isn't so", leaves("z"), append([]Change{{"-", sumOf("no"), ""}}, c...), api.ErrArg)
	}
}

func TestApplyRefusesWhatIsOtherwise(t *testing.T) {
	a, b := sumOf("a"), sumOf("b")
	l := []Leaf{{"b", a}, {"d", a}}
	for what, c := range map[string][]Change{
		"a new leaf that is there":         {{"b", "", b}},
		"the same leaf once more":          {{"b", "", a}},
		"a leaf that isn't there":          {{"a", a, ""}},
		"a leaf that isn't there, between": {{"c", a, b}},
		"a leaf that isn't there, behind":  {{"e", a, ""}},
		"another digest":                   {{"d", b, ""}},
		"another digest, changed":          {{"d", b, a}},
		"one that is so ahead":             {{"b", a, ""}, {"d", b, ""}},
		"one that is so behind":            {{"b", b, ""}, {"d", a, ""}},
		"a leaf below one that is there":   {{"b/a", a, ""}},
	} {
		mustNotApply(t, what, l, c, api.ErrState)
	}
}

func TestApplyAtTheMostLeaves(t *testing.T) {
	l := many(1024)
	sum := sumOf("x")
	mustApply(t, "nothing to 1024", l, nil, l)
	mustApply(t, "one more to 1023", l[1:], []Change{{l[0].Path, "", l[0].Sum}}, l)
	mustApply(t, "one for another in 1024", l, []Change{{"n0000", l[0].Sum, ""}, {"z", "", sum}}, append(slices.Clone(l[1:]), Leaf{"z", sum}))
	mustApply(t, "one ahead for the last", l, []Change{{"a", "", sum}, {"n1023", l[1023].Sum, ""}}, append([]Leaf{{"a", sum}}, l[:1023]...))
	mustNotApply(t, "one more to 1024, ahead", l, []Change{{"a", "", sum}}, api.ErrLong)
	mustNotApply(t, "one more to 1024, behind", l, []Change{{"z", "", sum}}, api.ErrLong)
	mustNotApply(t, "two more for one", l, []Change{{"a", "", sum}, {"b", "", sum}, {"n0000", l[0].Sum, ""}}, api.ErrLong)
	mustNotApply(t, "one more, and one that isn't so", l, []Change{{"a", "", sum}, {"z", sum, ""}}, api.ErrState)
	var c []Change
	for _, x := range many(1025) {
		c = append(c, Change{x.Path, "", x.Sum})
	}
	mustApply(t, "1024 to nothing", nil, c[:1024], l)
	mustNotApply(t, "1025 to nothing", nil, c, api.ErrLong)
	mustNotApply(t, "1025 to one of them", l[1024-1:], c, api.ErrState)
}

func TestApplyToNoList(t *testing.T) {
	for what, x := range badLists() {
		for _, c := range [][]Change{nil, {{"a", "", sumOf("a")}}, {{"", "", ""}}, {{"zz", sumOf("a"), ""}}} { // Check's error is the first one
			mustNotApply(t, what, x.l, c, x.want)
		}
	}
}

func TestDiffAndApplyLeaveWhatIsHandedIn(t *testing.T) {
	mark, markChange := Leaf{"mark", "mark"}, Change{Path: "mark"}
	b := []Leaf{{"a", sumOf("other")}, {"a/b", plainSum("a/b")}, {"q", sumOf("q")}}
	one, two := roomy(known(), mark), roomy(b, mark)
	c := roomy(Diff(one, two), markChange)
	if !intact(one, known(), mark) || !intact(two, b, mark) {
		t.Error("Diff: a list is another one")
	}
	for _, changes := range [][]Change{c, c[:0], c[:1]} {
		got, e := Apply(one, changes)
		must(t, "Apply", e, api.OK)
		for i := range got {
			got[i] = Leaf{}
		}
		_ = append(got, Leaf{}, Leaf{})
		if !intact(one, known(), mark) || !intact(c, plainDiff(known(), b), markChange) {
			t.Error("Apply: what was handed in is another thing")
		}
	}
}

func TestDiffIsNewMemory(t *testing.T) {
	a, b := known(), leaves("a", "q")
	one, two := Diff(a, b), Diff(a, b)
	for i := range one {
		one[i] = Change{}
	}
	mustBe(t, "the other difference", two, plainDiff(a, b))
}

// Promise 20.5: what follows

func TestWhatIsChangedByADifferenceIsTheOtherList(t *testing.T) {
	r := rand.New(rand.NewSource(205))
	for range 3000 {
		a, b := randomList(r, 12), randomList(r, 12)
		mustApply(t, "a difference", a, Diff(a, b), b)
	}
	l := many(1024)
	others := many(1024)
	for i := range others {
		others[i].Path += "-"
	}
	mustApply(t, "2048 changes", l, Diff(l, others), others)
	mustApply(t, "1024 changes", l, Diff(l, nil), nil)
}
