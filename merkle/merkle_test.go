package merkle

import (
	"encoding/hex"
	"fmt"
	"strings"
	"testing"

	"strongroom/api"
)

// known is the list whose digests were reckoned apart from the program.
func known() []Leaf {
	var l []Leaf
	for _, p := range []string{"a", "a-b", "a/b", "a/b.c", "ab", "b/c_d/e", "z"} {
		l = append(l, Leaf{p, plainSum(p)})
	}
	return l
}

// Promise 20.1: Check

func TestCheckTakesLists(t *testing.T) {
	for what, l := range map[string][]Leaf{
		"nothing":                nil,
		"an empty list":          {},
		"a leaf":                 leaves("a"),
		"paths of all kinds":     known(),
		"a path of 32 bytes":     leaves("abcdefghijkl/abcdefghijkl/abcdef"),
		"a name of 12 bytes":     leaves("abcdefghijkl"),
		"the bytes of names":     leaves("-_.0", "...", "a"),
		"noughts for digests":    {{"a", strings.Repeat("\x00", 32)}, {"b", strings.Repeat("\x00", 32)}},
		"1024 leaves":            many(1024),
		"paths byte by byte":     leaves("a", "a-b", "a.b", "a/b", "a0", "a_", "aa"),
		"one digest many times":  {{"a", sumOf("x")}, {"b", sumOf("x")}, {"c", sumOf("x")}},
		"one path below another": leaves("a", "a/a", "a/a/a"),
	} {
		must(t, "Check of "+what, Check(l), api.OK)
	}
}

func TestCheckRefusesWhatIsNoList(t *testing.T) {
	for what, c := range badLists() {
		must(t, "Check of "+what, Check(c.l), c.want)
		if plainList(c.l) {
			t.Errorf("%s: the test's own words call it a list", what)
		}
	}
}

func TestCheckFindsAFaultAnywhere(t *testing.T) {
	for i := range 1024 {
		l := many(1024)
		l[i].Sum = l[i].Sum[:31]
		must(t, fmt.Sprint("Check with a short digest at ", i), Check(l), api.ErrArg)
	}
	for i := 1; i < 1024; i++ {
		l := many(1024)
		l[i].Path = l[i-1].Path
		must(t, fmt.Sprint("Check with a path twice at ", i), Check(l), api.ErrArg)
	}
}

// Promise 20.1: Digest

func TestDigestThatIsKnown(t *testing.T) {
	for n, want := range []string{
		"dbc1b4c900ffe48d575b5da5c638040125f65db0fe3e24494b76ea986457d986",
		"f7187faf83f6cba57656df26610274eb06305f15842a23c450a4c04d6ba1961a",
		"b1be5562070facc08d9992549bc306c6d028e2876d6ea489aef2c0df7157f234",
		"3cd3b5a1a8e5552728f15db81db778484708fcd744056601eb449134af6d0449",
		"b5394d0b9033e9ab07026e30709c7243c54bf508e1fb6080e9ab52f63f7f6bc9",
		"bea22b25ee8fbea6f037c7d2985d8a52f17a2aa7f90087e622223e791d99b0b6",
		"226dfb93e0d006adaa08b59ed0e5421a70e3af35af0efee90efd45eeb81023c7",
		"48f3c1f35a1e00ce2466d7f516cdbe829a1f1906c5f15098034d6e21d03049ce",
	} {
		if got := hex.EncodeToString([]byte(Digest(known()[:n]))); got != want {
			t.Errorf("Digest of %d leaves: %s, not %s", n, got, want)
		}
	}
	l := many(1024)
	for i := range l {
		l[i].Sum = plainSum(l[i].Path)
	}
	for n, want := range map[int]string{
		1023: "99589a9505e4e17b3551332be93d05b88c4236cad67bcca00bb5f40a418580cc",
		1024: "ad8747bc1a25fbe8aee61404628d10b6a7c9fa0cc3bd560a2526911992496f43",
	} {
		if got := hex.EncodeToString([]byte(Digest(l[:n]))); got != want {
			t.Errorf("Digest of %d leaves: %s, not %s", n, got, want)
		}
	}
}

func TestDigestIsWhatTheWordsSay(t *testing.T) {
	l := many(1024)
	for n := range 150 {
		if Digest(l[:n]) != plainDigest(l[:n]) {
			t.Errorf("Digest of %d leaves", n)
		}
	}
	for _, n := range []int{255, 256, 257, 511, 512, 513, 1000, 1023, 1024} {
		if Digest(l[:n]) != plainDigest(l[:n]) {
			t.Errorf("Digest of %d leaves", n)
		}
	}
}

func TestDigestHangsOnEachLeaf(t *testing.T) {
	l := known()
	seen := map[string]string{Digest(l): "all"}
	tell := func(what string, l []Leaf) {
		if was, ok := seen[Digest(l)]; ok {
			t.Errorf("%s: the digest of %s", what, was)
		}
		seen[Digest(l)] = what
	}
	for i := range l {
		tell(fmt.Sprint("without ", i), append(known()[:i:i], l[i+1:]...))
		other := known()
		other[i].Path += "-"
		tell(fmt.Sprint("another path at ", i), other)
		other = known()
		other[i].Sum = sumOf("other")
		tell(fmt.Sprint("another digest at ", i), other)
	}
}

func TestDigestOfNoList(t *testing.T) {
	for what, c := range badLists() {
		if got := Digest(c.l); got != "" {
			t.Errorf("Digest of %s: %x", what, got)
		}
	}
}

// Promise 20.1: Find

func TestFind(t *testing.T) {
	asked := []string{"", "!", "-", "A", "a", "a-", "a-b", "a.", "a/", "a/a", "a/b", "a/b.c", "a/b.d", "a0", "ab", "abc", "b", "b/c_d/e", "b/c_d/e/f", "y", "z", "zz", "~", "\xff"}
	for n := range 8 {
		l := known()[:n]
		for _, p := range asked {
			want, there := 0, false
			for _, x := range l {
				if x.Path < p {
					want++
				}
				there = there || x.Path == p
			}
			if at, ok := Find(l, p); at != want || ok != there {
				t.Errorf("Find of %q among %d: %d, %v, not %d, %v", p, n, at, ok, want, there)
			}
		}
	}
}

func TestFindAmongMany(t *testing.T) {
	l := many(1024)
	for i, x := range l {
		if at, ok := Find(l, x.Path); at != i || !ok {
			t.Fatalf("Find of %q: %d, %v", x.Path, at, ok)
		}
		if at, ok := Find(l, x.Path+"-"); at != i+1 || ok {
			t.Fatalf("Find behind %q: %d, %v", x.Path, at, ok)
		}
	}
}

func TestFindInNoList(t *testing.T) {
	for what, c := range badLists() {
		for _, p := range []string{"", "a", "b", "m", "n0003", "z", c.l[len(c.l)-1].Path} {
			if at, ok := Find(c.l, p); at != 0 || ok {
				t.Errorf("Find of %q in %s: %d, %v", p, what, at, ok)
			}
		}
	}
}

// Promise 20.1: Below

func TestBelow(t *testing.T) {
	l := known()
	for _, c := range []struct {
		place string
		want  []Leaf
	}{
		{"", l},
		{"a", []Leaf{l[0], l[2], l[3]}},
		{"a-b", l[1:2]},
		{"a/b", l[2:3]},
		{"a/b.c", l[3:4]},
		{"ab", l[4:5]},
		{"b", l[5:6]},
		{"b/c_d", l[5:6]},
		{"b/c_d/e", l[5:6]},
		{"b/c_d/e/f", nil},
		{"b/c", nil},
		{"z", l[6:]},
		{"c", nil},
		{"a/", nil},
		{"/", nil},
		{"A", nil},
		{".", nil},
		{"b//c_d", nil},
		{"abcdefghijklm", nil},
	} {
		mustBe(t, fmt.Sprintf("Below %q", c.place), Below(l, c.place), c.want)
	}
	mustBe(t, "Below of nothing", Below(nil, ""), nil)
	mustBe(t, "Below of 1024", Below(many(1024), ""), many(1024))
}

func TestBelowInNoList(t *testing.T) {
	for what, c := range badLists() {
		for _, place := range []string{"", "a", "b", "m", "n0003"} {
			mustBe(t, "Below in "+what, Below(c.l, place), nil)
		}
	}
}

func TestBelowIsNewMemory(t *testing.T) {
	l := known()
	whole := Below(l, "")
	again := Below(l, "")
	for i := range whole {
		whole[i] = Leaf{}
	}
	mustBe(t, "the list", l, known())
	mustBe(t, "the other answer", again, known())
}

// Promise 20.1: what is handed in stays.

func TestNothingIsWrittenIntoLists(t *testing.T) {
	mark := Leaf{"mark", "mark"}
	l := roomy(known(), mark)
	Check(l)
	Digest(l)
	Find(l, "a/b")
	Find(l, "a/c")
	_ = append(Below(l, ""), Leaf{})
	_ = append(Below(l, "a"), Leaf{})
	if !intact(l, known(), mark) {
		t.Error("the list is another one")
	}
}
