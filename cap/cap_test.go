package cap

import (
	"bytes"
	"crypto/hmac"
	"crypto/sha256"
	"encoding/binary"
	"fmt"
	"math"
	"math/rand"
	"slices"
	"strings"
	"testing"

	"strongroom/api"
)

// must holds an answer against the one that is asked for.
func must(t *testing.T, what string, got, want any) {
	t.Helper()
	if got != want {
		t.Fatalf("%s: %#v, not %#v", what, got, want)
	}
}

// mustBe holds a token against the one that is asked for; nil and empty lists are one.
func mustBe(t *testing.T, what string, got, want api.Token) {
	t.Helper()
	if got.Tenant != want.Tenant || got.Number != want.Number || got.Seal != want.Seal || !slices.Equal(got.Caveats, want.Caveats) {
		t.Fatalf("%s: %#v, not %#v", what, got, want)
	}
}

// standard is a seal as Go's library makes it.
func standard(key, message string) string {
	h := hmac.New(sha256.New, []byte(key))
	h.Write([]byte(message))
	return string(h.Sum(nil))
}

// numbers is the bytes of numbers, one behind the other, as Go's library writes them.
func numbers(l ...uint64) string {
	var b []byte
	for _, n := range l {
		b = binary.AppendUvarint(b, n)
	}
	return string(b)
}

func textBytes(s string) string { return numbers(uint64(len(s))) + s }

func plainCaveat(c api.Caveat) string {
	return textBytes(c.Path) + numbers(uint64(c.Rights), uint64(c.Until))
}

// plainSeal is a token's seal as the chapter's words make it, whether the token may be or not.
func plainSeal(secret string, t api.Token) string {
	seal := standard(secret, numbers(uint64(t.Tenant), uint64(t.Number)))
	for _, c := range t.Caveats {
		seal = standard(seal, plainCaveat(c))
	}
	return seal
}

// plainBytes is a token's bytes as the chapter's words make them, whether the token may be or not.
func plainBytes(t api.Token) []byte {
	s := numbers(uint64(t.Tenant), uint64(t.Number), uint64(len(t.Caveats)))
	for _, c := range t.Caveats {
		s += plainCaveat(c)
	}
	return []byte(s + textBytes(t.Seal))
}

// token is one of the tenant 3, sealed right by the secret s.
func token(l ...api.Caveat) api.Token {
	t := api.Token{Tenant: 3, Number: 500, Caveats: l}
	t.Seal = plainSeal("s", t)
	return t
}

func caveat(p string, rights api.Rights, until int) api.Caveat {
	return api.Caveat{Path: p, Rights: rights, Until: until}
}

// several is n caveats, no two alike, which meet.
func several(n int) []api.Caveat {
	var l []api.Caveat
	for i := range n {
		l = append(l, caveat("a", 7, 1000+i))
	}
	return l
}

func changed(t api.Token, change func(t *api.Token)) api.Token {
	t.Caveats = slices.Clone(t.Caveats)
	change(&t)
	return t
}

func mustMint(t *testing.T, secret string, tenant, number int) api.Token {
	t.Helper()
	m, e := Mint(secret, tenant, number)
	must(t, fmt.Sprintf("Mint(%q, %d, %d)", secret, tenant, number), e, api.OK)
	return m
}

func mustNarrow(t *testing.T, k api.Token, c api.Caveat) api.Token {
	t.Helper()
	n, e := Narrow(k, c)
	must(t, fmt.Sprintf("Narrow by %#v", c), e, api.OK)
	return n
}

func mustRefuse(t *testing.T, what string, k api.Token, c api.Caveat, want api.Errno) {
	t.Helper()
	n, e := Narrow(k, c)
	must(t, "Narrow, "+what, e, want)
	mustBe(t, "beside it, "+what, n, api.Token{})
}

// longPath is a path of n bytes, from 1 to 39 but 13 and 26.
func longPath(n int) string {
	return strings.Repeat("abcdefghijkl/", 3)[:n]
}

// goodCaveats are caveats at the edges of what may be.
var goodCaveats = []api.Caveat{
	{},
	{Rights: 7, Until: api.MaxTime},
	{Path: "a"},
	{Path: "a/b-c_d.e/0", Rights: 1, Until: 1},
	{Path: longPath(12), Rights: 2, Until: 127},
	{Path: longPath(32), Rights: 4, Until: 128},
	{Path: "...", Rights: 6, Until: api.MaxTime - 1},
}

// badCaveats are what is no caveat, each for one cause alone.
var badCaveats = []api.Caveat{
	{Path: "/", Rights: 1, Until: 9},
	{Path: "a/", Rights: 1, Until: 9},
	{Path: "/a", Rights: 1, Until: 9},
	{Path: "a//b", Rights: 1, Until: 9},
	{Path: ".", Rights: 1, Until: 9},
	{Path: "a/..", Rights: 1, Until: 9},
	{Path: "A", Rights: 1, Until: 9},
	{Path: "\xff", Rights: 1, Until: 9},
	{Path: "abcdefghijklm", Rights: 1, Until: 9},
	{Path: longPath(33), Rights: 1, Until: 9},
	{Path: strings.Repeat("a/", 50000) + "a", Rights: 1, Until: 9},
	{Path: "a", Rights: -1, Until: 9},
	{Path: "a", Rights: 8, Until: 9},
	{Path: "a", Rights: 9, Until: 9},
	{Path: "a", Rights: math.MinInt, Until: 9},
	{Path: "a", Rights: math.MaxInt, Until: 9},
	{Path: "a", Rights: 1, Until: -1},
	{Path: "a", Rights: 1, Until: api.MaxTime + 1},
	{Path: "a", Rights: 1, Until: math.MinInt},
	{Path: "a", Rights: 1, Until: math.MaxInt},
}

// badTokens are tokens that may not be, each for one cause alone, and sealed as if they might where the seal isn't the cause.
func badTokens() map[string]api.Token {
	out := map[string]api.Token{"none": {}}
	sealed := func(what string, t api.Token) {
		t.Seal = plainSeal("s", t)
		out[what] = t
	}
	for _, tenant := range []int{0, 9, -1, 257, 1<<32 + 1, math.MinInt, math.MaxInt} {
		sealed(fmt.Sprintf("tenant %d", tenant), api.Token{Tenant: tenant, Number: 500})
	}
	for _, number := range []int{-1, 1<<30 + 1, 1 << 31, 1<<32 + 5, math.MinInt, math.MaxInt} {
		sealed(fmt.Sprintf("number %d", number), api.Token{Tenant: 3, Number: number})
	}
	for _, n := range []int{9, 10, 300} {
		sealed(fmt.Sprintf("%d caveats", n), token(several(n)...))
	}
	for i, c := range badCaveats {
		sealed(fmt.Sprintf("bad caveat %d alone", i), token(c))
		sealed(fmt.Sprintf("bad caveat %d behind others", i), token(append(several(7), c)...))
		sealed(fmt.Sprintf("bad caveat %d ahead of another", i), token(c, several(1)[0]))
	}
	for _, n := range []int{0, 1, 31, 33, 64, 1000} {
		t := token(several(2)...)
		t.Seal = strings.Repeat(t.Seal, 40)[:n]
		out[fmt.Sprintf("seal of %d bytes", n)] = t
	}
	return out
}

// goodTokens are tokens that may be, all of them sealed right by the secret s.
func goodTokens() []api.Token {
	var out []api.Token
	add := func(t api.Token) {
		t.Seal = plainSeal("s", t)
		out = append(out, t)
	}
	for tenant := 1; tenant <= 8; tenant++ {
		for _, number := range []int{0, 1, 127, 128, 1<<30 - 1, 1 << 30} {
			add(api.Token{Tenant: tenant, Number: number})
		}
	}
	for n := range 9 {
		add(token(several(n)...))
	}
	for _, c := range goodCaveats {
		add(token(c))
		add(token(append(several(7), c)...))
	}
	return out
}

// Promise 12.1

func TestMint(t *testing.T) {
	long := strings.Repeat("secret", 30)
	for _, secret := range []string{"", "s", "\x00\xff", long} {
		for tenant := 1; tenant <= 8; tenant++ {
			for _, number := range []int{0, 1, 5, 127, 128, 300, 1<<30 - 1, 1 << 30} {
				got := mustMint(t, secret, tenant, number)
				want := api.Token{Tenant: tenant, Number: number}
				want.Seal = standard(secret, numbers(uint64(tenant), uint64(number)))
				mustBe(t, fmt.Sprintf("Mint(%q, %d, %d)", secret, tenant, number), got, want)
			}
		}
	}
}

func TestMintOfNoSuchTenantOrNumber(t *testing.T) {
	for _, c := range []struct{ tenant, number int }{
		{0, 5}, {9, 5}, {-1, 5}, {-8, 5}, {257, 5}, {1<<32 + 1, 5}, {math.MinInt, 5}, {math.MaxInt, 5},
		{1, -1}, {8, 1<<30 + 1}, {1, 1 << 31}, {1, 1<<32 + 5}, {1, math.MinInt}, {1, math.MaxInt}, {0, -1},
	} {
		m, e := Mint("s", c.tenant, c.number)
		must(t, fmt.Sprintf("Mint of %d, %d", c.tenant, c.number), e, api.ErrArg)
		mustBe(t, fmt.Sprintf("beside it, of %d, %d", c.tenant, c.number), m, api.Token{})
	}
}

func TestNarrowLaysTheCaveatBehindTheOthers(t *testing.T) {
	for _, c := range goodCaveats {
		k := mustMint(t, "s", 8, 300)
		var l []api.Caveat
		for i := range 8 {
			next := c
			if i%2 == 1 {
				next = several(8)[i]
			}
			seal := standard(k.Seal, plainCaveat(next))
			k = mustNarrow(t, k, next)
			l = append(l, next)
			mustBe(t, fmt.Sprintf("narrowed %d times", i+1), k, api.Token{Tenant: 8, Number: 300, Caveats: l, Seal: seal})
			must(t, "the seal as a chain", k.Seal, plainSeal("s", k))
		}
	}
}

// Narrow asks for no secret, so it narrows what isn't sealed right too.
func TestNarrowOfATokenThatIsNotSealedRight(t *testing.T) {
	seal := strings.Repeat("x", 32)
	k := mustNarrow(t, api.Token{Tenant: 1, Seal: seal}, caveat("a", 1, 9))
	must(t, "its seal", k.Seal, standard(seal, "\x01a\x01\x09"))
	must(t, "Check", Check("s", k), false)
}

func TestNarrowRefuses(t *testing.T) {
	good, full := token(several(1)...), token(several(8)...)
	for what, k := range badTokens() {
		mustRefuse(t, what, k, caveat("a", 1, 9), api.ErrArg)
	}
	for i, c := range badCaveats {
		mustRefuse(t, fmt.Sprintf("by the bad caveat %d", i), good, c, api.ErrArg)
		mustRefuse(t, fmt.Sprintf("of a full one by the bad caveat %d", i), full, c, api.ErrArg)
	}
	for i, c := range goodCaveats {
		mustRefuse(t, fmt.Sprintf("of a full one by the caveat %d", i), full, c, api.ErrFull)
	}
	mustRefuse(t, "of one with more than 8", token(several(9)...), caveat("a", 1, 9), api.ErrArg)
	mustBe(t, "a full one, behind all that", full, token(several(8)...))
}

// Two that are narrowed from one have nothing in common, be there room behind its list or not.
func TestNarrowAnswersNewMemory(t *testing.T) {
	l := append(make([]api.Caveat, 0, 8), several(2)...)
	k := token(l...)
	k.Caveats = l
	one, two := mustNarrow(t, k, caveat("one", 1, 1)), mustNarrow(t, k, caveat("two", 2, 2))
	must(t, "the first one's caveat", one.Caveats[2], caveat("one", 1, 1))
	must(t, "the second one's caveat", two.Caveats[2], caveat("two", 2, 2))
	must(t, "the room behind the list", l[:3][2], api.Caveat{})
	for i := range one.Caveats {
		one.Caveats[i] = caveat("changed", 0, 0)
	}
	if !slices.Equal(l, several(2)) || !slices.Equal(two.Caveats[:2], several(2)) {
		t.Fatal("a change of an answer's list is seen in an argument, or in another answer")
	}
	k.Caveats[0] = caveat("x", 0, 0)
	must(t, "an answer, if the argument changes", two.Caveats[0], several(1)[0])
}

func TestMay(t *testing.T) {
	for _, k := range goodTokens() {
		must(t, fmt.Sprintf("May(%#v)", k), May(k), true)
		k.Seal = strings.Repeat("\x00", 32)
		must(t, "May with any seal of 32 bytes", May(k), true)
	}
	must(t, "May with an empty list", May(api.Token{Tenant: 1, Caveats: []api.Caveat{}, Seal: token().Seal}), true)
	for what, k := range badTokens() {
		must(t, "May, "+what, May(k), false)
	}
}

func TestCheck(t *testing.T) {
	for _, k := range goodTokens() {
		must(t, fmt.Sprintf("Check(%#v)", k), Check("s", k), true)
		for _, secret := range []string{"", "t", "s\x00t", "ss", k.Seal} {
			must(t, fmt.Sprintf("Check by %q", secret), Check(secret, k), false)
		}
	}
	for _, secret := range []string{"", "\x00", strings.Repeat("long", 100)} {
		k := mustNarrow(t, mustMint(t, secret, 2, 7), caveat("a/b", 3, 70))
		must(t, fmt.Sprintf("Check by %q, which it was minted by", secret), Check(secret, k), true)
	}
}

// Sealed by the chapter's rule, but they may not be.
func TestCheckOfWhatMayNotBe(t *testing.T) {
	for what, k := range badTokens() {
		must(t, "Check, "+what, Check("s", k), false)
	}
}

func TestCheckLooksAtEachBitOfTheSeal(t *testing.T) {
	for _, k := range []api.Token{token(), token(several(3)...)} {
		seal := k.Seal
		for i := range len(seal) {
			for bit := range 8 {
				b := []byte(seal)
				b[i] ^= 1 << bit
				k.Seal = string(b)
				must(t, fmt.Sprintf("Check with the bit %d of the byte %d turned", bit, i), Check("s", k), false)
			}
		}
		b := []byte(seal) // two bytes that differ alike
		b[3] ^= 5
		b[9] ^= 5
		k.Seal = string(b)
		must(t, "Check with two bytes changed alike", Check("s", k), false)
	}
}

// Promise 12.2

var somePlaces = []string{"", "a", "b", "ab", "a/b", "a/c", "a/b/c", "a/bc", "b/a"}

var noPlaces = []string{"/", "a/", "/a", "a//b", ".", "..", "a/..", "A", "a b", "\x00", "\xff", "é", "abcdefghijklm", longPath(33), strings.Repeat("a", 1000)}

// covers is the chapter's word, by itself.
func covers(place, p string) bool {
	return place == "" || strings.HasPrefix(p+"/", place+"/")
}

// plainLets is the chapter's word of a token that may be.
func plainLets(l []api.Caveat, right api.Rights, p string, now int) bool {
	if right != 1 && right != 2 && right != 4 {
		return false
	}
	for _, c := range l {
		if !covers(c.Path, p) || c.Rights&right != right || now > c.Until {
			return false
		}
	}
	return true
}

// 12.2: the chapter's example.
func TestLetsOfTheExample(t *testing.T) {
	k := mustNarrow(t, mustMint(t, "s", 1, 5), caveat("a", 1, 9))
	for _, c := range []struct {
		right api.Rights
		p     string
		now   int
		want  bool
	}{
		{1, "a/b", 9, true}, {1, "a", 9, true}, {1, "a", 0, true},
		{2, "a/b", 9, false}, {4, "a/b", 9, false}, {1, "b", 9, false}, {1, "ab", 9, false}, {1, "", 9, false}, {1, "a/b", 10, false},
	} {
		must(t, fmt.Sprintf("Lets %d on %q at %d", c.right, c.p, c.now), Lets(k, c.right, c.p, c.now), c.want)
	}
}

// Each right by each caveat, and each place by each one.
func TestLetsByOneCaveat(t *testing.T) {
	for _, place := range somePlaces {
		for rights := api.Rights(0); rights <= 7; rights++ {
			k := token(caveat(place, rights, 9))
			for _, p := range somePlaces {
				for right := api.Rights(-9); right <= 17; right++ {
					for now := 8; now <= 10; now++ {
						got := Lets(k, right, p, now)
						must(t, fmt.Sprintf("%q with %d up to 9 lets %d on %q at %d", place, rights, right, p, now), got, plainLets(k.Caveats, right, p, now))
					}
				}
			}
		}
	}
}

func randomCaveats(r *rand.Rand) []api.Caveat {
	var l []api.Caveat
	for range r.Intn(9) {
		rights := api.Rights(7)
		if r.Intn(3) == 0 {
			rights = api.Rights(r.Intn(8))
		}
		l = append(l, caveat(somePlaces[min(r.Intn(len(somePlaces)), r.Intn(len(somePlaces)))], rights, 5+r.Intn(5)))
	}
	return l
}

func TestLetsByMany(t *testing.T) {
	r := rand.New(rand.NewSource(12))
	lets := 0
	for range 3000 {
		k := token(randomCaveats(r)...)
		for _, p := range somePlaces {
			for _, right := range []api.Rights{1, 2, 4} {
				now := 3 + r.Intn(8)
				got := Lets(k, right, p, now)
				must(t, fmt.Sprintf("%#v lets %d on %q at %d", k.Caveats, right, p, now), got, plainLets(k.Caveats, right, p, now))
				if got {
					lets++
				}
			}
		}
	}
	if lets < 1000 {
		t.Fatalf("%d of all are let: too few to tell", lets)
	}
}

// Whichever one of eight narrows, it counts.
func TestLetsAsksEachCaveat(t *testing.T) {
	for i := range 8 {
		for _, c := range []api.Caveat{caveat("b", 7, 99), caveat("a/b/c", 7, 99), caveat("a", 6, 99), caveat("a", 7, 49)} {
			l := slices.Repeat([]api.Caveat{caveat("a", 7, 99)}, 8)
			must(t, "eight that let", Lets(token(l...), 1, "a/b", 50), true)
			l[i] = c
			must(t, fmt.Sprintf("with %#v at the place %d", c, i), Lets(token(l...), 1, "a/b", 50), false)
		}
	}
}

func TestLetsWithoutCaveats(t *testing.T) {
	for _, p := range append(slices.Clone(somePlaces), longPath(32)) {
		for _, now := range []int{0, 1, api.MaxTime, api.MaxTime + 1, -1, math.MinInt, math.MaxInt} {
			for right := api.Rights(-2); right <= 9; right++ {
				must(t, fmt.Sprintf("Lets %d on %q at %d", right, p, now), Lets(token(), right, p, now), right == 1 || right == 2 || right == 4)
			}
		}
	}
	for _, right := range []api.Rights{math.MinInt, math.MaxInt, 1 << 32, 1<<32 + 1} {
		must(t, fmt.Sprintf("Lets %d", right), Lets(token(), right, "a", 1), false)
	}
}

func TestLetsAtTheEdgesOfTime(t *testing.T) {
	for _, until := range []int{0, 1, 9, api.MaxTime - 1, api.MaxTime} {
		k := token(caveat("", 7, until))
		for now, want := range map[int]bool{until - 1: true, until: true, until + 1: false, math.MinInt: true, math.MaxInt: false} {
			must(t, fmt.Sprintf("up to %d, at %d", until, now), Lets(k, 1, "a", now), want)
		}
	}
}

func TestLetsOnWhatIsNoPlace(t *testing.T) {
	for _, p := range noPlaces {
		must(t, fmt.Sprintf("without caveats, on %q", p), Lets(token(), 1, p, 1), false)
		must(t, fmt.Sprintf("with the empty place, on %q", p), Lets(token(caveat("", 7, 9)), 1, p, 1), false)
		must(t, fmt.Sprintf("with a, on a/%q", p), Lets(token(caveat("a", 7, 9)), 1, "a/"+p, 1), false)
	}
}

func TestLetsAndMeetOfWhatMayNotBe(t *testing.T) {
	for what, k := range badTokens() {
		for _, right := range []api.Rights{1, 2, 4} {
			must(t, "Lets, "+what, Lets(k, right, "a", 1), false)
		}
		c, ok := Meet(k)
		must(t, "Meet, "+what, ok, false)
		must(t, "beside it, "+what, c, api.Caveat{})
	}
}

// Neither asks for a secret: the seal isn't looked at.
func TestLetsAndMeetOfWhatIsNotSealedRight(t *testing.T) {
	k := token(caveat("a", 1, 9))
	k.Seal = strings.Repeat("x", 32)
	must(t, "Lets", Lets(k, 1, "a/b", 9), true)
	c, ok := Meet(k)
	must(t, "Meet", ok, true)
	must(t, "the caveat", c, caveat("a", 1, 9))
}

func TestMeet(t *testing.T) {
	for _, c := range []struct {
		l    []api.Caveat
		want api.Caveat
		ok   bool
	}{
		{nil, caveat("", 7, api.MaxTime), true},
		{[]api.Caveat{{}}, api.Caveat{}, true},
		{[]api.Caveat{caveat("a", 5, 9)}, caveat("a", 5, 9), true},
		{[]api.Caveat{caveat("a", 3, 9), caveat("a/b", 6, 7)}, caveat("a/b", 2, 7), true},
		{[]api.Caveat{caveat("a/b", 3, 7), caveat("a", 6, 9)}, caveat("a/b", 2, 7), true},
		{[]api.Caveat{caveat("a/b", 1, 7), caveat("a", 6, 0)}, caveat("a/b", 0, 0), true},
		{[]api.Caveat{caveat("", 7, 7), caveat("a/b/c", 7, 7), caveat("a", 7, 7)}, caveat("a/b/c", 7, 7), true},
		{[]api.Caveat{caveat("a", 7, 7), caveat("b", 7, 7)}, api.Caveat{}, false},
		{[]api.Caveat{caveat("a", 7, 7), caveat("ab", 7, 7)}, api.Caveat{}, false},
		{[]api.Caveat{caveat("a", 7, 7), caveat("a/b", 7, 7), caveat("a/c", 7, 7)}, api.Caveat{}, false},
		{[]api.Caveat{caveat("a/b", 7, 7), caveat("a/c", 7, 7), caveat("a", 7, 7)}, api.Caveat{}, false},
		{[]api.Caveat{caveat("b", 7, 7), caveat("", 7, 7), caveat("a", 7, 7)}, api.Caveat{}, false},
		{append(several(7), caveat("b", 7, 7)), api.Caveat{}, false},
		{several(8), caveat("a", 7, 1000), true},
		{[]api.Caveat{caveat(longPath(32), 7, api.MaxTime), caveat(longPath(12), 7, api.MaxTime)}, caveat(longPath(32), 7, api.MaxTime), true},
	} {
		got, ok := Meet(token(c.l...))
		must(t, fmt.Sprintf("Meet of %#v", c.l), ok, c.ok)
		must(t, fmt.Sprintf("the caveat of %#v", c.l), got, c.want)
	}
}

// meetPlainly is the chapter's word: two by two, and the one that all of them cover.
func meetPlainly(l []api.Caveat) (api.Caveat, bool) {
	out := caveat("", 7, api.MaxTime)
	for _, a := range l {
		for _, b := range l {
			if !covers(a.Path, b.Path) && !covers(b.Path, a.Path) {
				return api.Caveat{}, false
			}
		}
		if len(a.Path) > len(out.Path) {
			out.Path = a.Path
		}
		out.Rights &= a.Rights
		if a.Until < out.Until {
			out.Until = a.Until
		}
	}
	return out, true
}

func TestMeetLetsJustWhatAllDo(t *testing.T) {
	r := rand.New(rand.NewSource(122))
	met := 0
	for range 3000 {
		k := token(randomCaveats(r)...)
		c, ok := Meet(k)
		want, wantOK := meetPlainly(k.Caveats)
		must(t, fmt.Sprintf("Meet of %#v", k.Caveats), ok, wantOK)
		must(t, fmt.Sprintf("the caveat of %#v", k.Caveats), c, want)
		one := token(c)
		for _, p := range somePlaces {
			for _, right := range []api.Rights{1, 2, 4} {
				for now := 4; now <= 10; now++ {
					got := ok && Lets(one, right, p, now)
					must(t, fmt.Sprintf("%#v, by where they meet, %d on %q at %d", k.Caveats, right, p, now), got, Lets(k, right, p, now))
				}
			}
		}
		if ok && len(k.Caveats) > 1 {
			met++
		}
	}
	if met < 300 {
		t.Fatalf("%d meet: too few to tell", met)
	}
}

// Promise 12.3

func mustEncode(t *testing.T, k api.Token) []byte {
	t.Helper()
	b, e := Encode(k)
	must(t, fmt.Sprintf("Encode(%#v)", k), e, api.OK)
	return b
}

func mustDecode(t *testing.T, what string, b []byte, at int, want api.Token, behind int) {
	t.Helper()
	k, next, e := Decode(b, at)
	must(t, "Decode, "+what, e, api.OK)
	must(t, "the place behind it, "+what, next, behind)
	mustBe(t, "the token, "+what, k, want)
}

func mustNotDecode(t *testing.T, what string, b []byte, at int, want api.Errno) {
	t.Helper()
	k, next, e := Decode(b, at)
	must(t, "Decode, "+what, e, want)
	must(t, "the place beside it, "+what, next, 0)
	mustBe(t, "the token beside it, "+what, k, api.Token{})
}

func TestEncode(t *testing.T) {
	seal := strings.Repeat("x", 32)
	for _, c := range []struct {
		k    api.Token
		want string
	}{
		{api.Token{Tenant: 1, Seal: seal}, "\x01\x00\x00\x20" + seal},
		{api.Token{Tenant: 8, Number: 1 << 30, Seal: seal}, "\x08\x80\x80\x80\x80\x04\x00\x20" + seal},
		{api.Token{Tenant: 2, Number: 300, Caveats: []api.Caveat{{Path: "a/b", Rights: 5, Until: 200}, {}}, Seal: seal}, "\x02\xac\x02\x02\x03a/b\x05\xc8\x01\x00\x00\x00\x20" + seal},
		{api.Token{Tenant: 1, Caveats: []api.Caveat{{Rights: 7, Until: api.MaxTime}}, Seal: seal}, "\x01\x00\x01\x00\x07\x80\x80\x80\x80\x80\x20\x20" + seal},
	} {
		must(t, "the bytes", string(mustEncode(t, c.k)), c.want)
	}
	for _, k := range goodTokens() {
		must(t, "the bytes", string(mustEncode(t, k)), string(plainBytes(k)))
	}
	for what, k := range badTokens() {
		b, e := Encode(k)
		must(t, "Encode, "+what, e, api.ErrArg)
		must(t, "bytes beside it, "+what, len(b), 0)
	}
}

func TestEncodeAnswersNewMemory(t *testing.T) {
	k := token(several(3)...)
	one, two := mustEncode(t, k), mustEncode(t, k)
	want := string(two)
	for i := range one {
		one[i] = '!'
	}
	must(t, "the second answer", string(two), want)
	mustBe(t, "the token", k, token(several(3)...))
}

func TestDecodeReadsWhatIsWritten(t *testing.T) {
	r := rand.New(rand.NewSource(123))
	for _, k := range goodTokens() {
		k.Seal = string(randomBytes(32, r))
		b := mustEncode(t, k)
		mustDecode(t, "alone", b, 0, k, len(b))
		for range 4 {
			ahead, behind := randomBytes(r.Intn(40), r), randomBytes(r.Intn(40), r)
			all := slices.Concat(ahead, b, behind)
			kept := bytes.Clone(all)
			mustDecode(t, "between others", all, len(ahead), k, len(ahead)+len(b))
			must(t, "what was handed in is as it was", string(all), string(kept))
		}
	}
}

func randomBytes(n int, r *rand.Rand) []byte {
	b := make([]byte, n)
	r.Read(b)
	return b
}

func TestDecodeKeepsNothingOfTheBytes(t *testing.T) {
	k := token(goodCaveats...)
	b := mustEncode(t, k)
	one, _, _ := Decode(b, 0)
	two, _, _ := Decode(b, 0)
	clear(b)
	mustBe(t, "a token whose bytes are gone", one, k)
	clear(one.Caveats)
	mustBe(t, "a token, if another one of the same bytes changes", two, k)
}

func TestDecodeOfNoSuchPlace(t *testing.T) {
	b := mustEncode(t, token(several(1)...))
	for _, at := range []int{-1, len(b) + 1, math.MinInt, math.MaxInt} {
		mustNotDecode(t, fmt.Sprintf("at %d", at), b, at, api.ErrRange)
	}
	mustNotDecode(t, "at the end", b, len(b), api.ErrEnd)
	mustNotDecode(t, "of nothing", nil, 0, api.ErrEnd)
	mustNotDecode(t, "behind nothing", nil, 1, api.ErrRange)
}

// Whatever is cut off, the bytes end too early; also of a token that may not be, for that is told as soon as all is read.
func TestDecodeOfBytesCutShort(t *testing.T) {
	bad := token(several(2)...)
	bad.Tenant, bad.Number, bad.Caveats[0] = 9, 1<<31, caveat("A", 8, api.MaxTime+1)
	for _, k := range []api.Token{token(), token(goodCaveats...), token(several(8)...), bad} {
		b := plainBytes(k)
		for n := range len(b) {
			mustNotDecode(t, fmt.Sprintf("of %d bytes of %d", n, len(b)), b[:n], 0, api.ErrEnd)
			mustNotDecode(t, fmt.Sprintf("of %d bytes of %d, with room behind", n, len(b)), append([]byte("ab"), b[:n]...), 2, api.ErrEnd)
		}
	}
}

// parts is a token's bytes, thing by thing, so that one can be exchanged.
func parts(k api.Token) []string {
	l := []string{numbers(uint64(k.Tenant)), numbers(uint64(k.Number)), numbers(uint64(len(k.Caveats)))}
	for _, c := range k.Caveats {
		l = append(l, textBytes(c.Path), numbers(uint64(c.Rights)), numbers(uint64(c.Until)))
	}
	return append(l, textBytes(k.Seal))
}

func with(l []string, place int, s string) []byte {
	l = slices.Clone(l)
	l[place] = s
	return []byte(strings.Join(l, ""))
}

// Each number, and the number ahead of each text, in another form than Put's; the first such error is told, whatever stands behind.
func TestDecodeOfNumbersInAnotherForm(t *testing.T) {
	l := parts(token(several(2)...))
	for place := range l {
		for _, s := range []string{"\x80\x00", "\x81\x00", "\x81\x80\x00", strings.Repeat("\xff", 10), strings.Repeat("\xff", 9) + "\x02"} {
			mustNotDecode(t, fmt.Sprintf("%x at the part %d", s, place), with(l, place, s), 0, api.ErrForm)
			cut := []byte(strings.Join(l[:place], "") + s)
			mustNotDecode(t, fmt.Sprintf("%x at the part %d, and nothing behind", s, place), cut, 0, api.ErrForm)
		}
	}
}

func TestDecodeOfLongTexts(t *testing.T) {
	k := token(several(2)...)
	l := parts(k)
	seal := len(l) - 1
	for _, place := range []int{3, 6, seal} {
		for _, n := range []uint64{33, 34, 127, 128, 1 << 31, 1 << 32, 1<<32 + 1, 1 << 63, 1<<63 + 1, math.MaxUint64} {
			mustNotDecode(t, fmt.Sprintf("a text of %d at the part %d", n, place), with(l, place, numbers(n)+strings.Repeat("a", 40)), 0, api.ErrLong)
			cut := []byte(strings.Join(l[:place], "") + numbers(n)) // too long, and not there either
			mustNotDecode(t, fmt.Sprintf("a text of %d at the part %d, and nothing behind", n, place), cut, 0, api.ErrLong)
		}
	}
	k.Caveats[1].Path = longPath(32)
	b := plainBytes(k)
	mustDecode(t, "a path of 32 bytes", b, 0, k, len(b))
	k.Caveats[1].Path = longPath(32) + "x"
	mustNotDecode(t, "a path of 33 bytes", plainBytes(k), 0, api.ErrLong)
}

func TestDecodeOfWhatMayNotBe(t *testing.T) {
	for what, k := range badTokens() {
		want := api.ErrForm
		for _, c := range k.Caveats {
			if len(k.Caveats) <= 8 && len(c.Path) > 32 {
				want = api.ErrLong
			}
		}
		if len(k.Seal) > 32 {
			want = api.ErrLong
		}
		mustNotDecode(t, what, plainBytes(k), 0, want)
	}
}

// Numbers that no field may be, up to the greatest; some of them would be good ones if bits of them were cut off.
func TestDecodeOfGreatNumbers(t *testing.T) {
	l := parts(token(several(2)...))
	least := map[int]uint64{0: 9, 1: 1<<30 + 1, 2: 9, 4: 8, 5: 1<<40 + 1, 7: 8, 8: 1<<40 + 1}
	for place, n := range least {
		for _, great := range []uint64{n, n + 1, 1<<41 + 1, 1<<48 + 3, 1<<62 + 2, math.MaxInt64, 1 << 63, 1<<63 + 2, 1<<63 + 1<<32 + 2, math.MaxUint64 - 1, math.MaxUint64} {
			mustNotDecode(t, fmt.Sprintf("%d at the part %d", great, place), with(l, place, numbers(great)), 0, api.ErrForm)
		}
	}
	for _, great := range []uint64{1 << 32, 1<<32 + 2, 1<<31 + 2} {
		for _, place := range []int{0, 1, 2, 4, 7} {
			mustNotDecode(t, fmt.Sprintf("%d at the part %d", great, place), with(l, place, numbers(great)), 0, api.ErrForm)
		}
	}
	mustNotDecode(t, "the tenant 0", with(l, 0, "\x00"), 0, api.ErrForm)
}

// More than 8 caveats are told as soon as their number is read, anything else as soon as all is.
func TestDecodeErrorsInTheirOrder(t *testing.T) {
	for _, n := range []uint64{9, 10, 128, 1 << 32, 1<<32 + 1, 1 << 63, math.MaxUint64} {
		mustNotDecode(t, fmt.Sprintf("%d caveats, and nothing behind", n), []byte(numbers(1, 5, n)), 0, api.ErrForm)
		mustNotDecode(t, fmt.Sprintf("%d caveats, and a long path", n), []byte(numbers(1, 5, n, 99)), 0, api.ErrForm)
	}
	mustNotDecode(t, "8 caveats, and nothing behind", []byte(numbers(1, 5, 8)), 0, api.ErrEnd)
	mustNotDecode(t, "no such tenant, and nothing behind", []byte(numbers(9)), 0, api.ErrEnd)
	mustNotDecode(t, "no such tenant, and a long path", []byte(numbers(9, 5, 1, 33)), 0, api.ErrLong)
	mustNotDecode(t, "no such number, and a long seal", []byte(numbers(1, 1<<31, 0, 33)), 0, api.ErrLong)
	mustNotDecode(t, "no path, and nothing behind", []byte(numbers(1, 5, 1)+textBytes("A")), 0, api.ErrEnd)
	mustNotDecode(t, "no path, and a long seal", []byte(numbers(1, 5, 1)+textBytes("A")+numbers(1, 9, 33)), 0, api.ErrLong)
	mustNotDecode(t, "no rights, and a long path behind", []byte(numbers(1, 5, 2)+textBytes("a")+numbers(8, 9, 33)), 0, api.ErrLong)
	mustNotDecode(t, "a long path, and a number in another form behind", []byte(numbers(1, 5, 1, 33)+"\x80\x00"), 0, api.ErrLong)
	mustNotDecode(t, "a number in another form, and a long path behind", []byte("\x81\x00"+numbers(5, 1, 33)), 0, api.ErrForm)
	mustNotDecode(t, "a short seal", []byte(numbers(1, 5, 0)+textBytes("seal")), 0, api.ErrForm)
	mustNotDecode(t, "no seal", []byte(numbers(1, 5, 0, 0)), 0, api.ErrForm)
}

// What is read as a token is just what Encode writes of it, and nothing panics, whatever the bytes.
func TestDecodeOfAnyBytes(t *testing.T) {
	r := rand.New(rand.NewSource(1234))
	read := 0
	for range 60000 {
		b := mustEncode(t, token(randomCaveats(r)...))
		for range 1 + r.Intn(2) {
			b[min(r.Intn(len(b)), r.Intn(len(b)))] = byte(r.Intn(256) >> r.Intn(8))
		}
		k, next, e := Decode(b, 0)
		if e != api.OK {
			mustNotDecode(t, "again", b, 0, e)
			continue
		}
		read++
		must(t, "May of what was read", May(k), true)
		must(t, "the bytes of what was read", string(mustEncode(t, k)), string(b[:next]))
	}
	if read < 1000 {
		t.Fatalf("%d are read: too few to tell", read)
	}
}

// Promise 12.4

func TestNarrowedLetsNoMore(t *testing.T) {
	r := rand.New(rand.NewSource(124))
	for range 1500 {
		k := mustMint(t, "s", 1+r.Intn(8), r.Intn(1<<30+1))
		for _, c := range randomCaveats(r) {
			n := mustNarrow(t, k, c)
			must(t, "Check of the narrowed one", Check("s", n), true)
			for _, p := range somePlaces {
				for right := api.Rights(0); right <= 7; right++ {
					now := 3 + r.Intn(8)
					must(t, fmt.Sprintf("%#v narrowed by %#v, %d on %q at %d", k.Caveats, c, right, p, now),
						Lets(n, right, p, now), Lets(k, right, p, now) && plainLets([]api.Caveat{c}, right, p, now))
				}
			}
			k = n
		}
	}
}

// Who narrows one that isn't sealed right gets one that isn't.
func TestNarrowedIsNotSealedRightIfItWasNot(t *testing.T) {
	k := mustMint(t, "other", 3, 500)
	for _, c := range several(8) {
		k = mustNarrow(t, k, c)
		must(t, "Check", Check("s", k), false)
		must(t, "Check by the secret it was minted by", Check("other", k), true)
	}
}

func TestCheckOfChangedTokens(t *testing.T) {
	for n := range 9 {
		k := token(several(n)...)
		must(t, "Check", Check("s", k), true)
		changes := map[string]func(k *api.Token){
			"another tenant":            func(k *api.Token) { k.Tenant = 4 },
			"another number":            func(k *api.Token) { k.Number = 501 },
			"the seal of a shorter one": func(k *api.Token) { k.Seal = plainSeal("s", token(several(max(n-1, 0))...)) },
			"the seal of a longer one":  func(k *api.Token) { k.Seal = plainSeal("s", token(several(n+1)...)) },
			"one more":                  func(k *api.Token) { k.Caveats = append(k.Caveats, caveat("", 7, api.MaxTime)) },
			"none at all":               func(k *api.Token) { k.Caveats = nil },
		}
		if n == 0 {
			delete(changes, "the seal of a shorter one")
			delete(changes, "none at all")
		}
		for i := range n {
			changes[fmt.Sprintf("another path at %d", i)] = func(k *api.Token) { k.Caveats[i].Path = "" }
			changes[fmt.Sprintf("other rights at %d", i)] = func(k *api.Token) { k.Caveats[i].Rights = 6 }
			changes[fmt.Sprintf("another time at %d", i)] = func(k *api.Token) { k.Caveats[i].Until += 100 }
			changes[fmt.Sprintf("without that at %d", i)] = func(k *api.Token) { k.Caveats = slices.Delete(k.Caveats, i, i+1) }
			changes[fmt.Sprintf("twice that at %d", i)] = func(k *api.Token) { k.Caveats = slices.Insert(k.Caveats, i, k.Caveats[i]) }
			for j := range i {
				changes[fmt.Sprintf("%d and %d exchanged", i, j)] = func(k *api.Token) {
					k.Caveats[i], k.Caveats[j] = k.Caveats[j], k.Caveats[i]
				}
			}
		}
		for what, change := range changes {
			must(t, fmt.Sprintf("Check of one with %d, %s", n, what), Check("s", changed(k, change)), false)
		}
	}
}

// A token that goes as bytes is what it was, sealed right and narrowed.
func TestTokensThatGoAsBytes(t *testing.T) {
	k := mustMint(t, "s", 8, 1<<30)
	for _, c := range goodCaveats {
		b := mustEncode(t, mustNarrow(t, k, c))
		n, next, e := Decode(b, 0)
		must(t, "Decode", e, api.OK)
		must(t, "the place behind it", next, len(b))
		must(t, "Check", Check("s", n), true)
		k = n
	}
}
