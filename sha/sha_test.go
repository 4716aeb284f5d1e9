package sha

import (
	"bytes"
	"crypto/sha256"
	"encoding/binary"
	"encoding/hex"
	"math"
	"math/big"
	"math/rand"
	"strings"
	"testing"

	"strongroom/api"
)

// some are n bytes, other ones for each seed.
func some(n int, seed int64) []byte {
	b := make([]byte, n)
	rand.New(rand.NewSource(seed)).Read(b)
	return b
}

func standard(b []byte) string {
	s := sha256.Sum256(b)
	return string(s[:])
}

// Promise 2.1

func TestPrime(t *testing.T) {
	for _, c := range []struct {
		i    int
		want uint32
	}{
		{0, 2}, {1, 3}, {2, 5}, {3, 7}, {4, 11}, {5, 13}, {8, 23}, {9, 29}, {15, 53}, {29, 113}, {30, 127}, {63, 311}, {98, 523}, {99, 541},
	} {
		if got := Prime(c.i); got != c.want {
			t.Errorf("Prime(%d) = %d, want %d", c.i, got, c.want)
		}
	}
}

func TestPrimeTellsEachPrimeOnce(t *testing.T) {
	i := 0
	for n := int64(0); n <= 541; n++ {
		if !big.NewInt(n).ProbablyPrime(0) {
			continue
		}
		if got := Prime(i); int64(got) != n {
			t.Errorf("Prime(%d) = %d, want %d", i, got, n)
		}
		i++
	}
	if i != 100 {
		t.Fatalf("%d primes were looked at, not 100", i)
	}
}

func TestPrimeOfNoNumber(t *testing.T) {
	for _, i := range []int{-1, -2, -100, 100, 101, 1000, math.MaxInt, math.MinInt, math.MinInt + 1} {
		if got := Prime(i); got != 0 {
			t.Errorf("Prime(%d) = %d, want 0", i, got)
		}
	}
}

func TestRootOfTheStandard(t *testing.T) {
	for _, c := range []struct {
		p    uint32
		cube bool
		want uint32
	}{
		{2, false, 1779033703}, {2, true, 1116352408}, // the document's own
		{3, false, 0xbb67ae85}, {5, false, 0x3c6ef372}, {19, false, 0x5be0cd19},
		{3, true, 0x71374491}, {311, true, 0xc67178f2},
	} {
		if got := Root(c.p, c.cube); got != c.want {
			t.Errorf("Root(%d, %v) = %#x, want %#x", c.p, c.cube, got, c.want)
		}
	}
}

func TestRootThatIsWhole(t *testing.T) {
	for r := range uint32(65536) {
		if got := Root(r*r, false); got != 0 {
			t.Fatalf("Root(%d, false) = %d, want 0: the root is %d", r*r, got, r)
		}
	}
	for r := range uint32(1626) {
		if got := Root(r*r*r, true); got != 0 {
			t.Fatalf("Root(%d, true) = %d, want 0: the root is %d", r*r*r, got, r)
		}
	}
}

// rootNumbers are the edges of what a root can be of, and some others.
func rootNumbers() []uint32 {
	l := []uint32{math.MaxUint32, math.MaxUint32 - 1, 1 << 31, 1<<31 - 1, 65535*65535 - 1, 65535*65535 + 1, 1625*1625*1625 - 1, 1625*1625*1625 + 1}
	for p := range uint32(600) {
		l = append(l, p)
	}
	r := rand.New(rand.NewSource(2))
	for range 2000 {
		l = append(l, r.Uint32()>>r.Intn(32))
	}
	return l
}

// Promises 2.1 and 2.3: of x, which is the whole root and the word, x to that power isn't above p, and that of the next x is.
func TestRootIsTheGreatest(t *testing.T) {
	one := big.NewInt(1)
	for _, p := range rootNumbers() {
		for _, cube := range []bool{false, true} {
			power := int64(2)
			if cube {
				power = 3
			}
			whole := new(big.Int)
			for k := 16; k >= 0; k-- {
				next := new(big.Int).SetBit(whole, k, 1)
				if new(big.Int).Exp(next, big.NewInt(power), nil).Cmp(big.NewInt(int64(p))) <= 0 {
					whole = next
				}
			}
			x := new(big.Int).Lsh(whole, 32)
			x.Add(x, big.NewInt(int64(Root(p, cube))))
			all := new(big.Int).Lsh(big.NewInt(int64(p)), uint(32*power))
			if new(big.Int).Exp(x, big.NewInt(power), nil).Cmp(all) > 0 {
				t.Errorf("Root(%d, %v) is too great", p, cube)
			}
			x.Add(x, one)
			if new(big.Int).Exp(x, big.NewInt(power), nil).Cmp(all) <= 0 {
				t.Errorf("Root(%d, %v) is too small", p, cube)
			}
		}
	}
}

// The tables are what the definition says.
func TestTables(t *testing.T) {
	for i, w := range firstState {
		if want := Root(Prime(i), false); w != want {
			t.Errorf("firstState[%d] = %#x, want %#x", i, w, want)
		}
	}
	for i, w := range cubeWords {
		if want := Root(Prime(i), true); w != want {
			t.Errorf("cubeWords[%d] = %#x, want %#x", i, w, want)
		}
	}
}

func TestPad(t *testing.T) {
	for _, c := range []struct {
		n, noughts int
	}{
		{0, 55}, {1, 54}, {3, 52}, {54, 1}, {55, 0}, {56, 63}, {57, 62}, {63, 56}, {64, 55}, {65, 54}, {119, 0}, {120, 63}, {128, 55},
		{1 << 31, 55}, {1 << 60, 55}, {1 << 61, 55}, {1<<61 + 55, 0}, {math.MaxInt, 56}, {math.MaxInt - 8, 0}, {math.MaxInt - 7, 63},
	} {
		want := append([]byte{128}, make([]byte, c.noughts)...)
		want = binary.BigEndian.AppendUint64(want, uint64(c.n)*8)
		if got := Pad(c.n); !bytes.Equal(got, want) {
			t.Errorf("Pad(%d) = %v, want %v", c.n, got, want)
		}
	}
}

func TestPadFillsBlocks(t *testing.T) {
	for n := range 400 {
		got := Pad(n)
		if (n+len(got))%64 != 0 || len(got) < 9 || len(got) > 72 {
			t.Errorf("Pad(%d) has %d bytes", n, len(got))
		}
		if got[0] != 128 || binary.BigEndian.Uint64(got[len(got)-8:]) != uint64(8*n) {
			t.Errorf("Pad(%d) = %v", n, got)
		}
		for _, c := range got[1 : len(got)-8] {
			if c != 0 {
				t.Errorf("Pad(%d) = %v: no noughts", n, got)
			}
		}
	}
}

func TestPadOfFewerThanNone(t *testing.T) {
	for _, n := range []int{-1, -8, -9, -64, math.MinInt, math.MinInt + 1} {
		if got := Pad(n); len(got) != 0 {
			t.Errorf("Pad(%d) = %v, want none", n, got)
		}
	}
}

func TestPadIsNewMemory(t *testing.T) {
	first := Pad(3)
	want := bytes.Clone(first)
	second := Pad(3)
	clear(second)
	if !bytes.Equal(first, want) || !bytes.Equal(Pad(3), want) {
		t.Error("two paddings share memory")
	}
}

// slowMix is a mixing word for word as the document tells it, with the roots worked out.
func slowMix(state [8]uint32, block []byte) [8]uint32 {
	down := func(x uint32, n uint) uint32 { return x>>n + x<<(32-n) }
	w := make([]uint32, 64)
	for t := range w {
		if t < 16 {
			w[t] = binary.BigEndian.Uint32(block[4*t:])
			continue
		}
		x := down(w[t-15], 7) ^ down(w[t-15], 18) ^ w[t-15]>>3
		y := down(w[t-2], 17) ^ down(w[t-2], 19) ^ w[t-2]>>10
		w[t] = w[t-16] + w[t-7] + x + y
	}
	s := state
	for t := range w {
		a, b, c, e, f, g := s[0], s[1], s[2], s[4], s[5], s[6]
		u := s[7] + (down(e, 6) ^ down(e, 11) ^ down(e, 25)) + ((e & f) ^ (^e & g)) + Root(Prime(t), true) + w[t]
		v := (down(a, 2) ^ down(a, 13) ^ down(a, 22)) + ((a & b) ^ (a & c) ^ (b & c))
		s = [8]uint32{u + v, s[0], s[1], s[2], s[3] + u, s[4], s[5], s[6]}
	}
	for i := range s {
		s[i] += state[i]
	}
	return s
}

func TestMix(t *testing.T) {
	r := rand.New(rand.NewSource(3))
	full := [8]uint32{math.MaxUint32, math.MaxUint32, math.MaxUint32, math.MaxUint32, math.MaxUint32, math.MaxUint32, math.MaxUint32, math.MaxUint32}
	states := [][8]uint32{{}, full, {1}, {7: 1}, firstState}
	blocks := [][]byte{make([]byte, 64), bytes.Repeat([]byte{255}, 64), Pad(0), append([]byte("abc"), Pad(3)...)}
	for i := range 20 {
		var s [8]uint32
		for k := range s {
			s[k] = r.Uint32()
		}
		states = append(states, s)
		blocks = append(blocks, some(64, int64(i)))
	}
	for _, s := range states {
		for _, b := range blocks {
			kept, before := bytes.Clone(b), s
			got, e := Mix(s, b)
			if e != api.OK || got != slowMix(s, b) {
				t.Errorf("Mix(%x, %x) = %x, %d", s, b, got, e)
			}
			if !bytes.Equal(b, kept) || s != before {
				t.Errorf("Mix changed what it was given")
			}
		}
	}
}

func TestMixMakesTheDigest(t *testing.T) {
	var state [8]uint32
	for i := range state {
		state[i] = Root(Prime(i), false)
	}
	state, e := Mix(state, append([]byte("abc"), Pad(3)...))
	want := [8]uint32{0xba7816bf, 0x8f01cfea, 0x414140de, 0x5dae2223, 0xb00361a3, 0x96177a9c, 0xb410ff61, 0xf20015ad}
	if e != api.OK || state != want {
		t.Errorf("the state behind abc is %x, %d, want %x", state, e, want)
	}
}

func TestMixOfNoBlock(t *testing.T) {
	for _, n := range []int{0, 1, 32, 63, 65, 127, 128, 1000} {
		got, e := Mix(firstState, some(n, 4))
		if e != api.ErrArg || got != [8]uint32{} {
			t.Errorf("Mix with %d bytes = %x, %d, want noughts and ErrArg", n, got, e)
		}
	}
	if got, e := Mix(firstState, nil); e != api.ErrArg || got != [8]uint32{} {
		t.Errorf("Mix with nil = %x, %d, want noughts and ErrArg", got, e)
	}
	if got, e := Mix(firstState, make([]byte, 64)[:63]); e != api.ErrArg || got != [8]uint32{} {
		t.Errorf("Mix with room for a block, but 63 bytes = %x, %d", got, e)
	}
}

// Promise 2.2

func TestSumOfTheStandard(t *testing.T) {
	for _, c := range []struct {
		b    string
		want string
	}{
		{"", "e3b0c44298fc1c149afbf4c8996fb92427ae41e4649b934ca495991b7852b855"},
		{"abc", "ba7816bf8f01cfea414140de5dae2223b00361a396177a9cb410ff61f20015ad"},
		{"abcdbcdecdefdefgefghfghighijhijkijkljklmklmnlmnomnopnopq", "248d6a61d20638b8e5c026930c3e6039a33ce45964ff2167f6ecedd419db06c1"},
		{strings.Repeat("a", 1000000), "cdc76e5c9914fb9281a1c7e284d73e67f1809a48a497200e046d39ccc7112cd0"},
	} {
		if got := hex.EncodeToString([]byte(Sum([]byte(c.b)))); got != c.want {
			t.Errorf("Sum of %d bytes = %s, want %s", len(c.b), got, c.want)
		}
	}
	if got := Sum(nil); got != Sum([]byte{}) || got[:4] != string([]byte{227, 176, 196, 66}) {
		t.Errorf("Sum(nil) = %x", got)
	}
}

func TestSumAtEveryLength(t *testing.T) {
	for n := range 400 {
		b := some(n, int64(n))
		kept := bytes.Clone(b)
		if got := Sum(b); got != standard(b) || len(got) != 32 {
			t.Errorf("Sum of %d bytes = %x, want %x", n, got, standard(b))
		}
		if !bytes.Equal(b, kept) {
			t.Errorf("Sum changed its %d bytes", n)
		}
	}
}

func TestNewHasNoBytes(t *testing.T) {
	h := New()
	if h == nil {
		t.Fatal("New() is nil")
	}
	if got := h.Sum(); got != standard(nil) {
		t.Errorf("New().Sum() = %x", got)
	}
	for _, b := range [][]byte{nil, {}} {
		h.Write(b)
		if got := h.Sum(); got != standard(nil) {
			t.Errorf("behind no bytes Sum() = %x", got)
		}
	}
}

func TestHashSumChangesNothing(t *testing.T) {
	for n := range 200 {
		h := New()
		b := some(n, 5)
		h.Write(b)
		first := h.Sum()
		if second := h.Sum(); first != standard(b) || second != first {
			t.Fatalf("of %d bytes Sum is %x, and then %x", n, first, second)
		}
		h.Write([]byte("more"))
		if got := h.Sum(); got != standard(append(b, "more"...)) {
			t.Fatalf("of %d bytes, Sum, and 4 bytes Sum is %x", n, got)
		}
	}
}

func TestHashKeepsNoMemory(t *testing.T) {
	for _, n := range []int{1, 63, 64, 65, 130} {
		h := New()
		b := some(n, 6)
		kept := bytes.Clone(b)
		h.Write(b)
		if !bytes.Equal(b, kept) {
			t.Errorf("Write changed its %d bytes", n)
		}
		clear(b)
		if got := h.Sum(); got != standard(kept) {
			t.Errorf("what became of %d bytes behind Write changed the digest", n)
		}
	}
}

func TestHashesStandAlone(t *testing.T) {
	a, b := New(), New()
	a.Write([]byte("left"))
	b.Write([]byte("right"))
	a.Write([]byte("hand"))
	if a.Sum() != standard([]byte("lefthand")) || b.Sum() != standard([]byte("right")) || New().Sum() != standard(nil) {
		t.Error("one Hash has another's bytes")
	}
}

func TestNilHash(t *testing.T) {
	var h *Hash
	h.Write(nil)
	h.Write([]byte("abc"))
	h.Write(some(200, 7))
	if got := h.Sum(); got != "" {
		t.Errorf("a nil Hash's Sum is %x", got)
	}
}

// Promise 2.3

func TestTwoPieces(t *testing.T) {
	b := some(200, 8)
	for end := range len(b) + 1 {
		want := standard(b[:end])
		for cut := range end + 1 {
			h := New()
			h.Write(b[:cut])
			h.Write(b[cut:end])
			if got := h.Sum(); got != want {
				t.Fatalf("of %d and %d bytes Sum is %x, want %x", cut, end-cut, got, want)
			}
		}
	}
}

func TestManyPieces(t *testing.T) {
	r := rand.New(rand.NewSource(9))
	for i := range 300 {
		b := some(r.Intn(2000), int64(i))
		h := New()
		for rest := b; len(rest) > 0; {
			n := min(len(rest), r.Intn(1+r.Intn(200)))
			h.Write(rest[:n])
			rest = rest[n:]
		}
		if h.Sum() != Sum(b) || Sum(b) != standard(b) {
			t.Fatalf("%d bytes in pieces have another digest", len(b))
		}
	}
}

func TestByteByByte(t *testing.T) {
	h := New()
	b := some(300, 10)
	for i := range b {
		h.Write(b[i : i+1])
		if got := h.Sum(); got != standard(b[:i+1]) {
			t.Fatalf("of %d single bytes Sum is %x", i+1, got)
		}
	}
}

func BenchmarkSum(b *testing.B) {
	data := some(1024, 11)
	b.SetBytes(int64(len(data)))
	for b.Loop() {
		Sum(data)
	}
}
