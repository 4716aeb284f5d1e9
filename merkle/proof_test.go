package merkle

import (
	"encoding/hex"
	"fmt"
	"math"
	"math/rand"
	"slices"
	"strings"
	"testing"

	"strongroom/api"
)

// mustProve proves a leaf, holds the proof against the model, and has it verified.
func mustProve(t *testing.T, l []Leaf, root string, i int) []string {
	t.Helper()
	what := fmt.Sprintf("of place %d among %d", i, len(l))
	proof, e := Prove(l, i)
	must(t, "Prove "+what, e, api.OK)
	mustBe(t, "Prove "+what, proof, plainProof(l, i))
	if !Verify(root, len(l), i, l[i], proof) {
		t.Fatalf("Verify %s: false", what)
	}
	return proof
}

// mustFail holds that something isn't verified, neither by the program nor by the words.
func mustFail(t *testing.T, what, root string, n, i int, x Leaf, proof []string) {
	t.Helper()
	if Verify(root, n, i, x, proof) {
		t.Errorf("Verify of %s: true", what)
	}
	if plainVerify(root, n, i, x, proof) {
		t.Errorf("%s: true by the test's own words", what)
	}
}

// Promise 20.2: Prove

func TestProveThatIsKnown(t *testing.T) {
	want := []string{
		"0cce3f36072cb117c13b06f891b805165431d46a06b181e3cc4cf9888b7e116a",
		"0da965d7ddcf9e9c3fa5abb3698a06977915fd1a55c2c97542de5223340686bb",
		"b5394d0b9033e9ab07026e30709c7243c54bf508e1fb6080e9ab52f63f7f6bc9",
	}
	var got []string
	for _, s := range mustProve(t, known(), Digest(known()), 4) {
		got = append(got, hex.EncodeToString([]byte(s)))
	}
	mustBe(t, "the proof of place 4 among 7", got, want)
}

func TestProveOfOneLeafIsEmpty(t *testing.T) {
	proof, e := Prove(leaves("a"), 0)
	must(t, "Prove", e, api.OK)
	mustBe(t, "Prove of one leaf", proof, nil)
}

func TestProveIsWhatTheWordsSay(t *testing.T) {
	l := many(1024)
	for n := 1; n <= 40; n++ {
		root := Digest(l[:n])
		for i := range n {
			mustProve(t, l[:n], root, i)
		}
	}
	for _, n := range []int{511, 512, 513, 1023, 1024} {
		root := Digest(l[:n])
		for _, i := range []int{0, 1, 254, 255, 256, 300, n - 2, n - 1} {
			mustProve(t, l[:n], root, i)
		}
	}
}

func TestProveWithoutALeaf(t *testing.T) {
	for _, c := range []struct{ n, i int }{
		{0, 0}, {0, -1}, {0, 1}, {1, 1}, {1, -1}, {7, 7}, {7, 8}, {7, -1}, {7, math.MinInt}, {7, math.MaxInt}, {1024, 1024}, {1024, -1},
	} {
		proof, e := Prove(many(c.n), c.i)
		must(t, fmt.Sprintf("Prove of place %d among %d", c.i, c.n), e, api.ErrRange)
		mustBe(t, "Prove", proof, nil)
	}
}

func TestProveInNoList(t *testing.T) {
	for what, c := range badLists() {
		for _, i := range []int{-1, 0, len(c.l) - 1, len(c.l)} { // Check's error is the first one
			proof, e := Prove(c.l, i)
			must(t, "Prove in "+what, e, c.want)
			mustBe(t, "Prove in "+what, proof, nil)
		}
	}
}

func TestProveIsNewMemory(t *testing.T) {
	mark := Leaf{"mark", "mark"}
	l := roomy(known(), mark)
	for i := range l {
		one, _ := Prove(l, i)
		other, _ := Prove(l, i)
		for j := range one {
			one[j] = "gone"
		}
		_ = append(one, "gone")
		mustBe(t, "the other proof", other, plainProof(known(), i))
	}
	if !intact(l, known(), mark) {
		t.Error("the list is another one")
	}
}

// Promise 20.2: Verify

func TestVerifyOfEveryLeafAnywhere(t *testing.T) {
	for n := 1; n <= 9; n++ {
		l := many(n)
		root := Digest(l)
		for from := range n {
			proof := mustProve(t, l, root, from)
			for at := range l {
				for claimed := -1; claimed <= 18; claimed++ {
					for place := -1; place <= claimed; place++ {
						want := plainVerify(root, claimed, place, l[at], proof)
						if got := Verify(root, claimed, place, l[at], proof); got != want {
							t.Fatalf("Verify of the leaf %d and the proof of %d among %d, claimed at %d among %d: %v", at, from, n, place, claimed, got)
						}
						if want && at != from {
							t.Fatalf("the leaf %d is verified by the proof of %d among %d", at, from, n)
						}
					}
				}
			}
		}
	}
}

func TestVerifyHangsOnEachByte(t *testing.T) {
	l := many(11)
	root := Digest(l)
	change := func(s string, at int) string {
		b := []byte(s)
		b[at] ^= 1
		return string(b)
	}
	for i, x := range l {
		proof := mustProve(t, l, root, i)
		for at := range 32 {
			mustFail(t, "another root", change(root, at), 11, i, x, proof)
			mustFail(t, "another digest", root, 11, i, Leaf{x.Path, change(x.Sum, at)}, proof)
			for j := range proof {
				other := slices.Clone(proof)
				other[j] = change(proof[j], at)
				mustFail(t, "another proof", root, 11, i, x, other)
			}
		}
		for at := 1; at < len(x.Path); at++ {
			mustFail(t, "another path", root, 11, i, Leaf{change(x.Path, at), x.Sum}, proof)
		}
	}
}

func TestVerifyOfOtherSizes(t *testing.T) {
	l := many(11)
	root := Digest(l)
	for i, x := range l {
		proof := mustProve(t, l, root, i)
		mustFail(t, "no proof", root, 11, i, x, nil)
		mustFail(t, "no first digest", root, 11, i, x, proof[1:])
		mustFail(t, "no last digest", root, 11, i, x, proof[:len(proof)-1])
		mustFail(t, "a digest more", root, 11, i, x, append(slices.Clone(proof), root))
		mustFail(t, "a digest more ahead", root, 11, i, x, append([]string{root}, proof...))
		mustFail(t, "an empty digest more", root, 11, i, x, append(slices.Clone(proof), ""))
		mustFail(t, "very many digests", root, 11, i, x, make([]string, 100000))
		mustFail(t, "an empty root", "", 11, i, x, proof)
		mustFail(t, "a root and more", root+"x", 11, i, x, proof)
		mustFail(t, "a root cut off", root[:31], 11, i, x, proof)
	}
}

// What comes of digests of other sizes is some root as well, yet none that is verified.
func TestVerifyOfDigestsOfOtherSizes(t *testing.T) {
	l := many(11)
	for i, x := range l {
		for j := range plainProof(l, i) {
			for _, s := range []string{"", "x", strings.Repeat("x", 31), strings.Repeat("x", 33), strings.Repeat("x", 64)} {
				proof := plainProof(l, i)
				proof[j] = s
				mustFail(t, fmt.Sprintf("a digest of %d bytes", len(s)), plainRoot(11, i, x, proof), 11, i, x, proof)
			}
		}
	}
}

func TestVerifyOfWhatIsNoLeaf(t *testing.T) {
	for what, x := range badLeaves() {
		mustFail(t, what, plainLeafSum(x), 1, 0, x, nil)
		proof := []string{sumOf("beside")}
		mustFail(t, what, plainRoot(2, 0, x, proof), 2, 0, x, proof)
		mustFail(t, what, plainRoot(2, 1, x, proof), 2, 1, x, proof)
	}
}

func TestVerifyAtTheEdges(t *testing.T) {
	x := leaves("a")[0]
	sums := func(n int) []string { return slices.Repeat([]string{sumOf("beside")}, n) }
	for _, c := range []struct {
		n, i, size int
		want       bool
	}{
		{1, 0, 0, true}, {2, 0, 1, true}, {2, 1, 1, true}, {3, 2, 1, true}, {3, 1, 2, true},
		{1023, 1022, 9, true}, {1023, 0, 10, true}, {1024, 0, 10, true}, {1024, 1023, 10, true}, {513, 512, 1, true},
		{1025, 0, 11, false}, {1025, 1024, 1, false}, {2048, 0, 11, false},
	} {
		proof := sums(c.size)
		if got := Verify(plainRoot(c.n, c.i, x, proof), c.n, c.i, x, proof); got != c.want {
			t.Errorf("Verify of %d among %d by %d digests: %v", c.i, c.n, c.size, got)
		}
	}
	for _, n := range []int{math.MinInt, -1024, -1, 0, 1, 2, 3, 1024, 1025, math.MaxInt} {
		for _, i := range []int{math.MinInt, -1, 0, 1, 2, 1024, math.MaxInt} {
			for size := range 12 {
				if n < 1 || n > 1024 || i < 0 || i >= n || n == 1 && size > 0 {
					mustFail(t, fmt.Sprintf("%d among %d by %d digests", i, n, size), plainLeafSum(x), n, i, x, sums(size))
				}
			}
		}
	}
}

func TestVerifyTakesNoPartForALeaf(t *testing.T) {
	l := known()
	// The digest of two is of a byte 1 and 64 bytes: a leaf with a path of 31 bytes is of as many.
	mustFail(t, "the first two as one", Digest(l), 6, 0, Leaf{"a", plainDigest(l[:2])}, plainProof(l, 0)[1:])
	x := Leaf{strings.Repeat("a", 10) + "/" + strings.Repeat("b", 10) + "/" + strings.Repeat("c", 9), sumOf("x")}
	inner := plainSum("\x01", "\x1f", x.Path, x.Sum)
	mustFail(t, "a leaf's bytes behind a byte 1", inner, 1, 0, x, nil)
}

func TestVerifyLeavesTheProof(t *testing.T) {
	l := known()
	for i, x := range l {
		proof := roomy(plainProof(l, i), "mark")
		Verify(Digest(l), len(l), i, x, proof)
		if !intact(proof, plainProof(l, i), "mark") {
			t.Errorf("the proof of %d is another one", i)
		}
	}
}

// Promise 20.3: Absent

// mustMiss asks for an absence, holds it against the words, and has it verified.
func mustMiss(t *testing.T, l []Leaf, p string) Absence {
	t.Helper()
	a, e := Absent(l, p)
	must(t, "Absent of "+p, e, api.OK)
	at := 0
	for at < len(l) && l[at].Path < p {
		at++
	}
	want := Absence{At: at}
	if at > 0 {
		want.Left, want.Ahead = l[at-1], plainProof(l, at-1)
	}
	if at < len(l) {
		want.Right, want.Behind = l[at], plainProof(l, at)
	}
	if a.At != want.At || a.Left != want.Left || a.Right != want.Right || !slices.Equal(a.Ahead, want.Ahead) || !slices.Equal(a.Behind, want.Behind) {
		t.Fatalf("Absent of %q among %d: %.300q, not %.300q", p, len(l), fmt.Sprint(a), fmt.Sprint(want))
	}
	if root := plainDigest(l); !Missing(root, len(l), p, a) || !plainMissing(root, len(l), p, a) {
		t.Fatalf("Missing of %q among %d: false", p, len(l))
	}
	return a
}

func TestAbsentAnywhere(t *testing.T) {
	for n := range 8 {
		for _, p := range []string{"-", "a-", "a-c", "a/a", "a/b.b", "a/b.d", "aa", "abc", "b", "b/c_d/e/f", "y", "zz"} {
			mustMiss(t, known()[:n], p)
		}
	}
	l := many(1024)
	for _, p := range []string{"a", "n0000-", "n0511-", "n0512-", "n1022-", "n1023-", "z"} {
		mustMiss(t, l, p)
		mustMiss(t, l[:513], p)
	}
}

func TestAbsentOfWhatIsThere(t *testing.T) {
	for n := 1; n < 8; n++ {
		for _, x := range known()[:n] {
			a, e := Absent(known()[:n], x.Path)
			must(t, "Absent of "+x.Path, e, api.ErrTwice)
			mustBeNothing(t, a)
		}
	}
}

func mustBeNothing(t *testing.T, a Absence) {
	t.Helper()
	if a.At != 0 || a.Left != (Leaf{}) || a.Right != (Leaf{}) || len(a.Ahead)+len(a.Behind) > 0 {
		t.Errorf("beside an error: %q", fmt.Sprint(a))
	}
}

func TestAbsentOfNoPath(t *testing.T) {
	for _, l := range [][]Leaf{nil, known(), many(1024)} {
		for _, p := range []string{"", "/", "a/", "/a", "A", ".", "a//b", "abcdefghijklm", "abcdefghijkl/abcdefghijkl/abcdefg", "\xff"} {
			a, e := Absent(l, p)
			must(t, "Absent of "+p, e, api.ErrArg)
			mustBeNothing(t, a)
		}
	}
}

func TestAbsentInNoList(t *testing.T) {
	for what, c := range badLists() {
		for _, p := range []string{"", "a", "A", "m", "zz", "n0003"} { // Check's error is the first one
			a, e := Absent(c.l, p)
			must(t, "Absent in "+what, e, c.want)
			mustBeNothing(t, a)
		}
	}
}

func TestAbsentIsNewMemory(t *testing.T) {
	mark := Leaf{"mark", "mark"}
	l := roomy(known(), mark)
	a := mustMiss(t, l, "a/bb")
	b := mustMiss(t, l, "a/bb")
	for i := range a.Ahead {
		a.Ahead[i] = "gone"
	}
	_ = append(a.Ahead, "gone", "gone", "gone")
	mustBe(t, "Behind", a.Behind, b.Behind)
	for i := range a.Behind {
		a.Behind[i] = "gone"
	}
	mustBe(t, "the other Ahead", b.Ahead, plainProof(known(), b.At-1))
	mustBe(t, "the other Behind", b.Behind, plainProof(known(), b.At))
	if !intact(l, known(), mark) {
		t.Error("the list is another one")
	}
}

// Promise 20.3: Missing

// All absences that can be made of the leaves and proofs of a short list are held against the words.
func TestMissingIsWhatTheWordsSay(t *testing.T) {
	l := leaves("b", "d", "f", "h")
	paths := []string{"a", "b", "c", "d", "e", "f", "g", "h", "i"}
	for n := range 5 {
		list := l[:n]
		root := plainDigest(list)
		asides := []Leaf{{}}
		proofs := [][]string{nil}
		for i, x := range list {
			asides = append(asides, x)
			proofs = append(proofs, plainProof(list, i))
		}
		asides = append(asides, leaves("c")...)
		holds := 0
		for _, p := range paths {
			for at := -1; at <= n+1; at++ {
				for _, left := range asides {
					for _, right := range asides {
						for _, ahead := range proofs {
							for _, behind := range proofs {
								a := Absence{at, left, right, ahead, behind}
								want := plainMissing(root, n, p, a)
								if got := Missing(root, n, p, a); got != want {
									t.Fatalf("Missing of %q among %d: %v with %.300q", p, n, got, fmt.Sprint(a))
								}
								if want {
									holds++
								}
							}
						}
					}
				}
			}
		}
		if absent := 9 - n; n != 1 && holds != absent || n == 1 && holds < absent { // of one leaf the proof is as empty as none
			t.Errorf("among %d: %d absences hold", n, holds)
		}
	}
}

func TestMissingForEachCause(t *testing.T) {
	l := leaves("b", "d", "f", "h", "j")
	root := Digest(l)
	bad := func(what, root string, n int, p string, a Absence) {
		t.Helper()
		if Missing(root, n, p, a) || plainMissing(root, n, p, a) {
			t.Errorf("Missing with %s: true", what)
		}
	}
	for at, p := range []string{"a", "c", "e", "g", "i", "k"} {
		ok := mustMiss(t, l, p)
		for _, other := range []string{"a", "b", "c", "d", "e", "f", "g", "h", "i", "j", "k"} {
			if other != p {
				bad("the path "+other+" for "+p, root, 5, other, ok)
			}
		}
		for n := -1; n < 9; n++ {
			if want := plainMissing(root, n, p, ok); Missing(root, n, p, ok) != want {
				t.Errorf("Missing of %q among %d claimed: %v", p, n, !want)
			}
		}
		for _, i := range []int{math.MinInt, -1, at - 1, at + 1, 6, math.MaxInt} {
			a := ok
			a.At = i
			bad(fmt.Sprint("At ", i), root, 5, p, a)
		}
		bad("another root", sumOf("root"), 5, p, ok)
		bad("an empty root", "", 5, p, ok)
		a := ok
		a.Left, a.Ahead = ok.Right, ok.Behind
		bad("Right for Left", root, 5, p, a)
		a = ok
		a.Right, a.Behind = ok.Left, ok.Ahead
		bad("Left for Right", root, 5, p, a)
		for _, more := range []string{"", root} {
			a = ok
			a.Ahead = append(slices.Clone(ok.Ahead), more)
			bad("Ahead and more", root, 5, p, a)
			a = ok
			a.Behind = append(slices.Clone(ok.Behind), more)
			bad("Behind and more", root, 5, p, a)
		}
	}
}

// A side that there isn't is nothing as a whole.
func TestMissingWithMoreThanNothing(t *testing.T) {
	l := leaves("b", "d")
	for _, x := range []Leaf{{Path: "a"}, {Sum: "x"}, leaves("a")[0], {Path: "\x00"}} {
		first := mustMiss(t, l, "a")
		first.Left = x
		last := mustMiss(t, l, "e")
		last.Right = x
		none := Absence{Left: x}
		other := Absence{Right: x}
		for i, a := range []Absence{first, last} {
			if p := []string{"a", "e"}[i]; Missing(Digest(l), 2, p, a) {
				t.Errorf("Missing of %s with %q: true", p, fmt.Sprint(x))
			}
		}
		if Missing(Digest(nil), 0, "a", none) || Missing(Digest(nil), 0, "a", other) {
			t.Errorf("Missing among none with %q: true", fmt.Sprint(x))
		}
	}
	for _, proof := range [][]string{{""}, {Digest(l)}, make([]string, 100000)} {
		first := mustMiss(t, l, "a")
		first.Ahead = proof
		last := mustMiss(t, l, "e")
		last.Behind = proof
		if Missing(Digest(l), 2, "a", first) || Missing(Digest(l), 2, "e", last) {
			t.Error("Missing with a proof of nothing: true")
		}
		if Missing(Digest(nil), 0, "a", Absence{Ahead: proof}) || Missing(Digest(nil), 0, "a", Absence{Behind: proof}) {
			t.Error("Missing among none with a proof of nothing: true")
		}
	}
}

func TestMissingAmongNone(t *testing.T) {
	none := Digest(nil)
	for _, a := range []Absence{{}, {Ahead: []string{}, Behind: []string{}}} {
		if !Missing(none, 0, "a", a) {
			t.Error("Missing among none: false")
		}
	}
	for _, root := range []string{"", none[:31], none + "x", Digest(leaves("b")), sumOf("root")} {
		if Missing(root, 0, "a", Absence{}) {
			t.Errorf("Missing among none with the root %x: true", root)
		}
	}
	for _, at := range []int{-1, 1, math.MinInt, math.MaxInt} {
		if Missing(none, 0, "a", Absence{At: at}) {
			t.Errorf("Missing among none at %d: true", at)
		}
	}
	for _, n := range []int{math.MinInt, -1, 1, 1024, math.MaxInt} {
		if Missing(none, n, "a", Absence{}) {
			t.Errorf("Missing among none, %d claimed: true", n)
		}
	}
}

func TestMissingOfNoPath(t *testing.T) {
	l := leaves("b", "d")
	for _, p := range []string{"", "/", "c/", "c//c", "C", "A", ".", "..", "~", "cccccccccccccc", "\xff"} {
		at := 0
		for at < 2 && l[at].Path < p {
			at++
		}
		a := Absence{At: at}
		if at > 0 {
			a.Left, a.Ahead = l[at-1], plainProof(l, at-1)
		}
		if at < 2 {
			a.Right, a.Behind = l[at], plainProof(l, at)
		}
		if Missing(Digest(l), 2, p, a) || Missing(Digest(nil), 0, p, Absence{}) {
			t.Errorf("Missing of %q: true", p)
		}
	}
}

func TestMissingAtTheEdges(t *testing.T) {
	l := many(1024)
	for _, p := range []string{"a", "n0500-", "z"} {
		mustMiss(t, l, p)
	}
	long := many(1025) // it is no list, yet its digest and proofs can be reckoned
	root := plainDigest(long)
	for at, p := range map[int]string{0: "a", 700: "n0699-", 1025: "z"} {
		a := Absence{At: at}
		if at > 0 {
			a.Left, a.Ahead = long[at-1], plainProof(long, at-1)
		}
		if at < 1025 {
			a.Right, a.Behind = long[at], plainProof(long, at)
		}
		if Missing(root, 1025, p, a) {
			t.Errorf("Missing of %q among 1025: true", p)
		}
	}
}

func TestMissingLeavesTheAbsence(t *testing.T) {
	l := known()
	a := mustMiss(t, l, "a/bb")
	a.Ahead, a.Behind = roomy(a.Ahead, "mark"), roomy(a.Behind, "mark")
	Missing(Digest(l), len(l), "a/bb", a)
	if !intact(a.Ahead, plainProof(l, a.At-1), "mark") || !intact(a.Behind, plainProof(l, a.At), "mark") {
		t.Error("the absence is another one")
	}
}

// Promise 20.5: what follows

func TestWhatIsThereIsProvedAndWhatIsNotIsMissing(t *testing.T) {
	r := rand.New(rand.NewSource(20))
	for range 300 {
		l := randomList(r, 20)
		root := Digest(l)
		sums := sumsOf(l)
		for j := range 40 {
			p := fmt.Sprintf("p%d", j)
			at, there := Find(l, p)
			a, e := Absent(l, p)
			if _, ok := sums[p]; ok != there {
				t.Fatalf("Find of %q: %v", p, there)
			}
			if there {
				must(t, "Absent of "+p, e, api.ErrTwice)
				mustProve(t, l, root, at)
				continue
			}
			must(t, "Absent of "+p, e, api.OK)
			if !Missing(root, len(l), p, a) {
				t.Fatalf("Missing of %q: false", p)
			}
			for i := range l { // no place and no proof of it shows a leaf that isn't there
				if Verify(root, len(l), i, Leaf{p, l[i].Sum}, plainProof(l, i)) {
					t.Fatalf("Verify of %q at %d: true", p, i)
				}
			}
		}
	}
}

func TestWhatIsThereIsMissingNowhere(t *testing.T) {
	for n := 1; n < 7; n++ {
		l := known()[:n]
		root := Digest(l)
		for _, x := range l {
			for at := range n + 1 {
				a := Absence{At: at}
				if at > 0 {
					a.Left, a.Ahead = l[at-1], plainProof(l, at-1)
				}
				if at < n {
					a.Right, a.Behind = l[at], plainProof(l, at)
				}
				if Missing(root, n, x.Path, a) {
					t.Errorf("Missing of %q at %d: true", x.Path, at)
				}
			}
		}
	}
}
