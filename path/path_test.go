package path

import (
	"math/rand"
	"regexp"
	"slices"
	"strings"
	"testing"

	"strongroom/api"
)

var nameForm = regexp.MustCompile(`^[a-z0-9_.-]{1,12}$`)

// isName is the chapter's word for a name, told in another way.
func isName(s string) bool {
	return nameForm.MatchString(s) && s != "." && s != ".."
}

// isPath is the chapter's word for a path, told in another way.
func isPath(p string) bool {
	return len(p) >= 1 && len(p) <= 32 && !slices.ContainsFunc(strings.Split(p, "/"), func(s string) bool { return !isName(s) })
}

// covering are the places that cover a place, by cutting its names off one by one.
func covering(p string) []string {
	l := []string{p}
	for p != "" {
		p = p[:max(0, strings.LastIndex(p, "/"))]
		l = append(l, p)
	}
	return l
}

// covers is the chapter's word for what covers, told in another way.
func covers(place, p string) bool {
	return isPlace(place) && isPlace(p) && slices.Contains(covering(p), place)
}

func isPlace(p string) bool {
	return p == "" || isPath(p)
}

// long is n bytes (2 or more), names of at most 12 with slashes between them: a path, if they are 32 at most.
func long(n int) string {
	b := []byte(strings.Repeat("x", n))
	for i := 10; i < n-1; i += 11 {
		b[i] = '/'
	}
	return string(b)
}

// notNames are texts that are no names, whatever stands beside them.
func notNames() []string {
	l := []string{"", ".", "..", "A", "Z", "aB", "a b", " ", " a", "a ", "a\n", "\na", "a\x00", "\x00", "*", "a*", "?", "a:b", "a\\b", "~", "+", ",", "`", "{", "@", "[", "^",
		"é", "aé", "éa", "ß", "日", "\u00df", "\uff41", "\u0661", "a\u0301", "\ufffd", "\xff", "a\xff", "\xffa", "\xc3", "\xc3a", "\xed\xa0\x80", "\xe1", "\x80", "\U0001f600",
		// Runes whose lower bytes are those of what a name may have.
		"\u0161", "\u012e", "\u0130", "\u022d", "\U00010061",
		// The slash in two bytes, which isn't one.
		"\xc0\xaf",
		"abcdefghijklm", strings.Repeat("a", 13), strings.Repeat(".", 13), strings.Repeat("a", 70000), strings.Repeat("é", 6), strings.Repeat("é", 12)}
	return l
}

// names are texts that are names.
func names() []string {
	return []string{"a", "z", "0", "9", "-", "_", "--", "...", "....", ".a", "a.", "..a", "a..", ".-", "._", "-.", "b.c", "a-b_c.d", "09azb-_.", "abcdefghijkl", strings.Repeat("a", 12), strings.Repeat(".", 12), strings.Repeat("_", 11)}
}

// paths are texts that are paths.
func paths() []string {
	return append(names(), "a/b", "a/b.c", "a/b/c", "ab/c", "a/bc", "a-b/c", "a.b/c", "a/b-c", "a/b.", "aa/b", "a/a", "a/a/a", ".../...", "a/...", "-/_/.a", "docs/a", "docs/ab/c", "0/1/2/3/4/5/6/7/8/9", "abcdefghijkl/abcdefghijkl",
		strings.Repeat("a/", 15)+"a", strings.Repeat("a/", 15)+"aa", long(30), long(31), long(32), "abcdefghijkl/abcdefghijkl/abcdef")
}

// notPaths are texts that are no paths, the empty one among them.
func notPaths() []string {
	l := []string{"/", "//", "///", "/a", "a/", "/a/", "//a", "a//", "a//b", "a/b/", "/a/b", "a/./b", "./a", "a/.", "a/..", "../a", "a/../b", "a/B", "A/b", "a/b c/d", "a\\b/c", "a/\x00", "a/é/b", "a/\xff", "\xff/a", "a\xc0\xafb",
		long(33), long(34), long(65), strings.Repeat("a/", 16) + "a", strings.Repeat("a/", 15) + "aaa", strings.Repeat("a/", 16), strings.Repeat("/", 32), strings.Repeat("/", 33), strings.Repeat("a/", 40000) + "a", "abcdefghijkl/abcdefghijkl/abcdefg",
		"abcdefghijklm/a", "a/abcdefghijklm", "a/abcdefghijklm/b", "a/\uff0fb"}
	return append(l, notNames()...)
}

// all are texts of all kinds.
func all() []string {
	return slices.Concat(paths(), notPaths())
}

// drawn are n texts by chance, the same ones each time: most have one or two letters too many, or too few, to be a path.
func drawn(n int) []string {
	pieces := []string{"a", "b", "a", "b", "c", "/", "/", "/", ".", "..", "-", "_", "9", "abcdefghijkl", "A", "é", "\xff", " "}
	r := rand.New(rand.NewSource(5))
	var l []string
	for range n {
		var s strings.Builder
		most := 8 + 10*r.Intn(2)
		for range r.Intn(12) {
			s.WriteString(pieces[r.Intn(most)])
		}
		l = append(l, s.String())
	}
	return l
}

// Promise 5.1

func TestNameOfNames(t *testing.T) {
	for _, s := range names() {
		if !Name(s) {
			t.Errorf("%q is a name", s)
		}
	}
}

func TestNameOfOtherTexts(t *testing.T) {
	for _, s := range append(notNames(), "a/b", "/", "/a", "a/") {
		if Name(s) {
			t.Errorf("%.40q is no name", s)
		}
	}
}

func TestNameOfAllRunesAndBytes(t *testing.T) {
	for r := range rune(0x11000) {
		for _, s := range []string{string(r), "a" + string(r), string(r) + "a", "a" + string(r) + "a"} {
			if Name(s) != isName(s) {
				t.Fatalf("%q is a name: %v", s, Name(s))
			}
		}
	}
	for c := range 256 {
		for d := range 256 {
			if s := string([]byte{byte(c), byte(d)}); Name(s) != isName(s) {
				t.Fatalf("%q is a name: %v", s, Name(s))
			}
		}
	}
}

func TestNameOfAllLengths(t *testing.T) {
	for n := range 40 {
		for _, one := range []string{"a", "-", "9", "."} {
			s := strings.Repeat(one, n)
			want := n >= 1 && n <= 12 && (one != "." || n > 2)
			if Name(s) != want {
				t.Errorf("%q is a name: %v", s, Name(s))
			}
		}
	}
}

func TestGoodAndPlaceOfPaths(t *testing.T) {
	for _, p := range paths() {
		if !Good(p) || !Place(p) {
			t.Errorf("%q: a path: %v, a place: %v", p, Good(p), Place(p))
		}
	}
}

func TestGoodAndPlaceOfOtherTexts(t *testing.T) {
	for _, p := range notPaths() {
		if Good(p) || Place(p) != (p == "") {
			t.Errorf("%.40q: a path: %v, a place: %v", p, Good(p), Place(p))
		}
	}
}

func TestGoodOfAllLengths(t *testing.T) {
	for n := 2; n < 200; n++ {
		if p := long(n); Good(p) != (n <= 32) || Place(p) != (n <= 32) {
			t.Errorf("%d bytes: a path: %v, a place: %v", n, Good(p), Place(p))
		}
	}
}

func TestGoodOfDrawnTexts(t *testing.T) {
	seen := 0
	for _, p := range drawn(20000) {
		if Good(p) != isPath(p) || Place(p) != isPlace(p) || Name(p) != isName(p) {
			t.Fatalf("%q: a path: %v, a place: %v, a name: %v", p, Good(p), Place(p), Name(p))
		}
		if Good(p) {
			seen++
		}
	}
	if seen < 1000 {
		t.Errorf("only %d paths were drawn", seen)
	}
}

func TestPartsOfKnownPaths(t *testing.T) {
	for _, c := range []struct {
		path string
		want []string
	}{
		{"a", []string{"a"}},
		{"...", []string{"..."}},
		{"a/b.c", []string{"a", "b.c"}},
		{"ab/c/ab", []string{"ab", "c", "ab"}},
		{"abcdefghijkl/abcdefghijkl/abcdef", []string{"abcdefghijkl", "abcdefghijkl", "abcdef"}},
		{strings.Repeat("a/", 15) + "aa", append(slices.Repeat([]string{"a"}, 15), "aa")},
	} {
		if got := Parts(c.path); !slices.Equal(got, c.want) {
			t.Errorf("%q: %q", c.path, got)
		}
	}
}

func TestPartsOfAllTexts(t *testing.T) {
	for _, p := range append(all(), drawn(5000)...) {
		var want []string
		if isPath(p) {
			want = strings.Split(p, "/")
		}
		if got := Parts(p); !slices.Equal(got, want) {
			t.Errorf("%.40q: %q", p, got)
		}
	}
}

func TestPartsAreNewMemory(t *testing.T) {
	first, second := Parts("a/b/c"), Parts("a/b/c")
	first[0] = "x"
	_ = append(first[:1], "y")
	if !slices.Equal(second, []string{"a", "b", "c"}) || !slices.Equal(Parts("a/b/c"), []string{"a", "b", "c"}) {
		t.Errorf("answers share memory: %q", second)
	}
}

func TestJoinOfNames(t *testing.T) {
	for _, p := range paths() {
		if got, e := Join(strings.Split(p, "/")); got != p || e != api.OK {
			t.Errorf("%q: %q and the error %d", p, got, e)
		}
	}
}

func TestJoinOfNoNames(t *testing.T) {
	for _, parts := range [][]string{nil, {}} {
		if p, e := Join(parts); p != "" || e != api.ErrArg {
			t.Errorf("%q and the error %d", p, e)
		}
	}
	for _, s := range append(notNames(), "a/b", "/", "a/", "/a") {
		for _, parts := range [][]string{{s}, {"a", s}, {s, "a"}, {"a", s, "a"}} {
			if p, e := Join(parts); p != "" || e != api.ErrArg {
				t.Errorf("%.60q: %q and the error %d", parts, p, e)
			}
		}
	}
}

func TestJoinOfTooMuch(t *testing.T) {
	twelve := "abcdefghijkl"
	for _, c := range []struct {
		parts []string
		want  api.Errno
	}{
		{[]string{twelve, twelve, "abcdef"}, api.OK},
		{[]string{twelve, twelve, "abcdefg"}, api.ErrLong},
		{[]string{twelve, twelve, "abcde", "a"}, api.ErrLong},
		{[]string{twelve, twelve, twelve}, api.ErrLong},
		{slices.Repeat([]string{"a"}, 16), api.OK},
		{slices.Repeat([]string{"a"}, 17), api.ErrLong},
		{append(slices.Repeat([]string{"a"}, 15), "aa"), api.OK},
		{append(slices.Repeat([]string{"a"}, 15), "aaa"), api.ErrLong},
		{slices.Repeat([]string{"a"}, 32), api.ErrLong},
		{slices.Repeat([]string{"a"}, 33), api.ErrLong},
		{slices.Repeat([]string{twelve}, 100000), api.ErrLong},
	} {
		want := ""
		if c.want == api.OK {
			want = strings.Join(c.parts, "/")
		}
		if p, e := Join(c.parts); p != want || e != c.want {
			t.Errorf("%d names: %q and the error %d", len(c.parts), p, e)
		}
	}
}

func TestJoinTellsWhatIsNoNameFirst(t *testing.T) {
	for _, s := range []string{"", ".", "..", "A", "a/b", "\xff", "abcdefghijklm"} {
		for _, parts := range [][]string{append(slices.Repeat([]string{"a"}, 40), s), append([]string{s}, slices.Repeat([]string{"a"}, 40)...)} {
			if p, e := Join(parts); p != "" || e != api.ErrArg {
				t.Errorf("%q among 40 others: %q and the error %d", s, p, e)
			}
		}
	}
}

func TestJoinLeavesItsNamesAlone(t *testing.T) {
	list := []string{"a", "b", "c", "d"}
	p, e := Join(list[:2])
	if p != "a/b" || e != api.OK || !slices.Equal(list, []string{"a", "b", "c", "d"}) {
		t.Errorf("%q behind %q and the error %d", list, p, e)
	}
}

func TestAboveOfKnownPaths(t *testing.T) {
	for _, c := range [][2]string{{"a", ""}, {"...", ""}, {"a/b", "a"}, {"a/b.c", "a"}, {"a/b/c", "a/b"}, {"ab/c/ab", "ab/c"}, {strings.Repeat("a/", 15) + "aa", strings.Repeat("a/", 14) + "a"}} {
		if got := Above(c[0]); got != c[1] {
			t.Errorf("%q: %q", c[0], got)
		}
	}
}

func TestAboveOfAllTexts(t *testing.T) {
	for _, p := range append(all(), drawn(5000)...) {
		want := ""
		if isPath(p) {
			l := strings.Split(p, "/")
			want = strings.Join(l[:len(l)-1], "/")
		}
		if got := Above(p); got != want {
			t.Errorf("%.40q: %q", p, got)
		}
	}
}

// Promise 5.2

func TestCoversOfKnownPlaces(t *testing.T) {
	for _, c := range []struct {
		place, p string
		want     bool
	}{
		{"", "", true},
		{"", "a", true},
		{"", "a/b", true},
		{"a", "", false},
		{"a", "a", true},
		{"a", "a/b", true},
		{"a", "a/b/c", true},
		{"a/b", "a", false},
		{"a/b", "a/b/c", true},
		{"a", "ab", false},
		{"a", "ab/c", false},
		{"a", "a.b", false},
		{"a", "a-b/c", false},
		{"a/b", "a/bc", false},
		{"ab", "a", false},
		{"b", "a/b", false},
		{"a/b", "b", false},
		{"...", ".../a", true},
		{long(30), long(30), true},
		{"docs", "docs/ab/c", true},
	} {
		if got := Covers(c.place, c.p); got != c.want {
			t.Errorf("%q covers %q: %v", c.place, c.p, got)
		}
	}
}

func TestCoversOfWhatIsNoPlace(t *testing.T) {
	for _, bad := range notPaths() {
		if bad == "" {
			continue
		}
		for _, good := range []string{"", "a", "a/b", bad} {
			if Covers(bad, good) || Covers(good, bad) {
				t.Errorf("%.40q and %.40q: %v, %v", bad, good, Covers(bad, good), Covers(good, bad))
			}
		}
	}
	for _, c := range [][2]string{{"a", "a/"}, {"a", "a//b"}, {"a", "a/.."}, {"a", "a/B"}, {"a/", "a/b"}, {"/", "/a"}, {"a", "a/" + long(31)}, {"a", "a/abcdefghijklm"}} {
		if Covers(c[0], c[1]) {
			t.Errorf("%q covers %q", c[0], c[1])
		}
	}
}

func TestCoversOfAllPairs(t *testing.T) {
	l := append(all(), drawn(300)...)
	for _, place := range l {
		for _, p := range l {
			if got := Covers(place, p); got != covers(place, p) {
				t.Fatalf("%.40q covers %.40q: %v", place, p, got)
			}
		}
	}
}

func TestMeetOfKnownPlaces(t *testing.T) {
	for _, c := range []struct {
		a, b, want string
		ok         bool
	}{
		{"", "", "", true},
		{"", "a", "a", true},
		{"a", "a", "a", true},
		{"a", "a/b", "a/b", true},
		{"a/b/c", "a", "a/b/c", true},
		{"", long(32), long(32), true},
		{"a", "b", "", false},
		{"a", "ab", "", false},
		{"a/b", "a/c", "", false},
		{"a/b", "a/bc", "", false},
		{"a/b", "b", "", false},
		{"", "/", "", false},
		{"", "A", "", false},
		{"", "..", "", false},
		{"", long(33), "", false},
		{"a", "a/", "", false},
		{"a", "a/..", "", false},
		{"A", "A", "", false},
		{"A", "A/b", "", false},
		{"\xff", "\xff", "", false},
		{long(33), long(33), "", false},
	} {
		for range 2 {
			if got, ok := Meet(c.a, c.b); got != c.want || ok != c.ok {
				t.Errorf("%q and %q: %q, %v", c.a, c.b, got, ok)
			}
			c.a, c.b = c.b, c.a
		}
	}
}

func TestMeetOfAllPairs(t *testing.T) {
	l := append(all(), drawn(300)...)
	for _, a := range l {
		for _, b := range l {
			want, ok := "", false
			if covers(a, b) {
				want, ok = b, true
			} else if covers(b, a) {
				want, ok = a, true
			}
			if got, is := Meet(a, b); got != want || is != ok {
				t.Fatalf("%.40q and %.40q: %q, %v", a, b, got, is)
			}
		}
	}
}

// Promise 5.3

func TestMovedOfKnownPaths(t *testing.T) {
	for _, c := range []struct {
		p, from, to, want string
		errno             api.Errno
	}{
		{"a/b", "a", "x", "x/b", api.OK},
		{"a", "a", "x", "x", api.OK},
		{"a", "a", "a", "a", api.OK},
		{"a/b", "a/b", "x/y/z", "x/y/z", api.OK},
		{"a/b/c", "a/b", "x", "x/c", api.OK},
		{"a/b/c", "a", "x/y", "x/y/b/c", api.OK},
		{"a/b", "a", "a/b", "a/b/b", api.OK},
		{"a/b/b", "a/b", "a", "a/b", api.OK},
		{"a/a/a", "a", "b", "b/a/a", api.OK},
		{"ab", "a", "x", "", api.ErrArg},
		{"a/bc", "a/b", "x", "", api.ErrArg},
		{"a", "a/b", "x", "", api.ErrArg},
		{"a", "b", "x", "", api.ErrArg},
		{"x", "a", "x", "", api.ErrArg},
		{"a/b", "", "x", "", api.ErrArg},
		{"a/b", "a", "", "", api.ErrArg},
		{"", "", "", "", api.ErrArg},
		{"", "", "x", "", api.ErrArg},
		{"a/", "a", "x", "", api.ErrArg},
		{"a/..", "a", "x", "", api.ErrArg},
		{"a/b", "a/", "x", "", api.ErrArg},
		{"a/b", "a", "x/", "", api.ErrArg},
		{"a/b", "a", "..", "", api.ErrArg},
		{"a/b", "a", "X", "", api.ErrArg},
	} {
		if got, e := Moved(c.p, c.from, c.to); got != c.want || e != c.errno {
			t.Errorf("%q from %q to %q: %q and the error %d", c.p, c.from, c.to, got, e)
		}
	}
}

func TestMovedOfWhatIsNoPath(t *testing.T) {
	for _, bad := range notPaths() {
		for _, c := range [][3]string{{bad, "a", "x"}, {bad, bad, "x"}, {"a", bad, "x"}, {"a", "a", bad}, {"a/b", "a", bad}, {bad, bad, bad}} {
			if p, e := Moved(c[0], c[1], c[2]); p != "" || e != api.ErrArg {
				t.Errorf("%.40q: %q and the error %d", c, p, e)
			}
		}
	}
}

func TestMovedOfAllLengths(t *testing.T) {
	for n := 2; n <= 32; n++ {
		for k := range 31 {
			p := "a"
			if k >= 2 {
				p = "a/" + long(k)
			}
			want, errno := long(n)+p[1:], api.OK
			if len(want) > 32 {
				want, errno = "", api.ErrLong
			}
			if got, e := Moved(p, "a", long(n)); got != want || e != errno {
				t.Errorf("%d bytes behind %d: %q and the error %d", len(p)-1, n, got, e)
			}
		}
	}
}

func TestMovedTellsTheArgumentsFirst(t *testing.T) {
	for _, c := range [][3]string{{long(32), "a", long(32)}, {"a/b", "b", long(32)}, {"a/b", "a", long(33)}, {"a/" + long(31), "a", long(32)}} {
		if p, e := Moved(c[0], c[1], c[2]); p != "" || e != api.ErrArg {
			t.Errorf("%q: %q and the error %d", c, p, e)
		}
	}
}

func TestMovedOfAllTriples(t *testing.T) {
	l := []string{"", "/", "..", "A", "a//b", long(33), "a", "b", "ab", "a/b", "a/b/c", "a/bc", "b/a", long(20), "a/" + long(20), "a/b/" + long(28), long(31), long(32)}
	for _, p := range l {
		for _, from := range l {
			for _, to := range l {
				want, errno := "", api.OK
				if !isPath(p) || !isPath(from) || !isPath(to) || !covers(from, p) {
					errno = api.ErrArg
				} else if want = to + strings.TrimPrefix(p, from); !isPath(want) {
					want, errno = "", api.ErrLong
				}
				if got, e := Moved(p, from, to); got != want || e != errno {
					t.Fatalf("%q from %q to %q: %q and the error %d", p, from, to, got, e)
				}
			}
		}
	}
}

// Promise 5.4

func TestWhatCoversWhatCoversCovers(t *testing.T) {
	l := append(drawn(100), "", "a", "b", "ab", "a/b", "a/ab", "a/b/a", "a/b/a/b", "ab/a", "a.b", "A", "a/", "/a", long(31), long(32), long(33), strings.Repeat("a/", 15)+"a")
	for _, x := range l {
		for _, y := range l {
			for _, z := range l {
				if Covers(x, y) && Covers(y, z) && !Covers(x, z) {
					t.Fatalf("%q covers %q, that covers %q, which the first doesn't", x, y, z)
				}
			}
		}
	}
}

func TestAPathIsCoveredByAsManyPlacesAsItHasNamesAndOne(t *testing.T) {
	for _, p := range append(paths(), drawn(2000)...) {
		if !Good(p) {
			continue
		}
		// What covers a path begins it, so these are all that can; the others are held against it above, pair by pair.
		n := 0
		for i := range len(p) + 1 {
			if Covers(p[:i], p) {
				n++
			}
		}
		if n != len(Parts(p))+1 {
			t.Errorf("%q is covered by %d places", p, n)
		}
	}
}

func TestTheWayUpIsAllThatCovers(t *testing.T) {
	for _, p := range paths() {
		steps := 0
		for q := p; q != ""; q = Above(q) {
			if !Covers(q, p) || !Covers(Above(q), q) || Covers(q, Above(q)) {
				t.Errorf("%q on the way up from %q", q, p)
			}
			steps++
		}
		if steps != len(Parts(p)) {
			t.Errorf("%q: %d steps up", p, steps)
		}
	}
}

func TestAllPlacesOfTwoLettersCount(t *testing.T) {
	var places []string
	var grow func(p string)
	grow = func(p string) {
		places = append(places, p)
		if len(p) == 6 {
			return
		}
		for _, c := range []string{"a", "b", "/"} {
			grow(p + c)
		}
	}
	grow("")
	for _, p := range places {
		n := 0
		for _, place := range places {
			if Covers(place, p) {
				n++
			}
		}
		want := 0
		if isPath(p) {
			want = strings.Count(p, "/") + 2
		} else if p == "" {
			want = 1
		}
		if n != want {
			t.Fatalf("%q is covered by %d places, want %d", p, n, want)
		}
	}
}
