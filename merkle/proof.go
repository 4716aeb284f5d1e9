package merkle

import (
	"strongroom/api"
	"strongroom/path"
)

// Absence shows that a path isn't there: what stands on both sides of its place.
type Absence struct {
	At            int
	Left, Right   Leaf
	Ahead, Behind []string
}

// Prove shows that a leaf is there.
func Prove(l []Leaf, i int) ([]string, api.Errno) {
	if e := Check(l); e != api.OK {
		return nil, e
	}
	if i < 0 || i >= len(l) {
		return nil, api.ErrRange
	}
	return prove(l, i), api.OK
}

// prove is the proof of a place in a list's part.
func prove(l []Leaf, i int) []string {
	if len(l) == 1 {
		return nil
	}
	k := half(len(l))
	if i < k {
		return with(prove(l[:k], i), partDigest(l[k:]))
	}
	return with(prove(l[k:], i-k), partDigest(l[:k]))
}

// with is a proof with one digest more, and no room behind it.
func with(proof []string, sum string) []string {
	proof = append(proof, sum)
	return proof[:len(proof):len(proof)]
}

// Verify tells whether a proof shows that a leaf is there.
func Verify(root string, n, i int, x Leaf, proof []string) bool {
	if !x.good() || n < 1 || n > api.MaxList || i < 0 || i >= n || len(proof) != depth(n, i) {
		return false
	}
	for _, sum := range proof {
		if len(sum) != sumSize {
			return false
		}
	}
	return root == rootOf(n, i, leafDigest(x), proof)
}

// depth is how many digests a proof of place i among n leaves has.
func depth(n, i int) int {
	if n == 1 {
		return 0
	}
	k := half(n)
	if i < k {
		return 1 + depth(k, i)
	}
	return 1 + depth(n-k, i-k)
}

// rootOf is the digest of n leaves that comes of the one at place i and its proof.
func rootOf(n, i int, leaf string, proof []string) string {
	if n == 1 {
		return leaf
	}
	k, last := half(n), len(proof)-1
	inner := proof[:last:last]
	if i < k {
		return twoDigest(rootOf(k, i, leaf, inner), proof[last])
	}
	return twoDigest(proof[last], rootOf(n-k, i-k, leaf, inner))
}

// Absent shows that a path isn't there.
func Absent(l []Leaf, p string) (Absence, api.Errno) {
	if e := Check(l); e != api.OK {
		return Absence{}, e
	}
	if !path.Good(p) {
		return Absence{}, api.ErrArg
	}
	at, there := find(l, p)
	if there {
		return Absence{}, api.ErrTwice
	}
	a := Absence{At: at}
	if at > 0 {
		a.Left, a.Ahead = l[at-1], prove(l, at-1)
	}
	if at < len(l) {
		a.Right, a.Behind = l[at], prove(l, at)
	}
	return a, api.OK
}

// Missing tells whether an absence shows that a path isn't there.
func Missing(root string, n int, p string, a Absence) bool {
	if !path.Good(p) || n < 0 || n > api.MaxList || a.At < 0 || a.At > n {
		return false
	}
	if n == 0 && root != noneDigest() {
		return false
	}
	return a.leftHolds(root, n, p) && a.rightHolds(root, n, p)
}

func (a Absence) leftHolds(root string, n int, p string) bool {
	if a.At == 0 {
		return a.Left == Leaf{} && len(a.Ahead) == 0
	}
	return a.Left.Path < p && Verify(root, n, a.At-1, a.Left, a.Ahead)
}

func (a Absence) rightHolds(root string, n int, p string) bool {
	if a.At == n {
		return a.Right == Leaf{} && len(a.Behind) == 0
	}
	return p < a.Right.Path && Verify(root, n, a.At, a.Right, a.Behind)
}
