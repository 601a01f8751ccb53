package merkle_test

import (
	"crypto/sha256"
	"math"
	"slices"
	"testing"

	"drogher/api"
	"drogher/merkle"
)

func leaf(b ...byte) api.Digest { return sha256.Sum256(append([]byte{0}, b...)) }

func pair(a, b api.Digest) api.Digest {
	return sha256.Sum256(append(append([]byte{1}, a[:]...), b[:]...))
}

// sums are n leaves' sums.
func sums(n int) (l []api.Digest) {
	for i := range n {
		l = append(l, leaf(byte(i), byte(i>>8)))
	}
	return l
}

// root is the root, by the words of the chapter.
func root(l []api.Digest) api.Digest {
	if len(l) == 0 {
		return sha256.Sum256(nil)
	}
	if len(l) == 1 {
		return l[0]
	}
	k := 1
	for 2*k < len(l) {
		k *= 2
	}
	return pair(root(l[:k]), root(l[k:]))
}

// way is a leaf's way, by the words of the chapter.
func way(l []api.Digest, i int) []api.Digest {
	if len(l) == 1 {
		return nil
	}
	k := 1
	for 2*k < len(l) {
		k *= 2
	}
	if i < k {
		return append(way(l[:k], i), root(l[k:]))
	}
	return append(way(l[k:], i-k), root(l[:k]))
}

// P21.1: sums.
func TestSums(t *testing.T) {
	if merkle.Leaf(nil) != leaf() || merkle.Leaf([]byte("abc")) != leaf([]byte("abc")...) {
		t.Error("P21.1: leaf")
	}
	a, b := leaf(1), leaf(2)
	if merkle.Pair(a, b) != pair(a, b) || merkle.Pair(b, a) == pair(a, b) {
		t.Error("P21.1: pair")
	}
}

// P21.1, P21.2: each leaf of trees of many sizes.
func TestTrees(t *testing.T) {
	for n := range 70 {
		l := sums(n)
		before := slices.Clone(l)
		r := merkle.Root(l)
		if r != root(l) {
			t.Fatal("P21.1: root", n)
		}
		for i := range n {
			w, e := merkle.Way(l, i)
			if e != api.OK || !slices.Equal(w, way(l, i)) || merkle.Steps(i, n) != len(w) {
				t.Fatal("P21.1: way", i, n, e)
			}
			if got, e := merkle.Lead(l[i], i, n, w); e != api.OK || got != r {
				t.Fatal("P21.2:", i, n, e)
			}
		}
		for _, i := range []int{-1, n, n + 1, math.MinInt, math.MaxInt} {
			w, e := merkle.Way(l, i)
			d, f := merkle.Lead(leaf(), i, n, nil)
			if e != api.ErrRange || len(w) != 0 || f != api.ErrRange || d != (api.Digest{}) || merkle.Steps(i, n) != -1 {
				t.Error("P21.1: no leaf", i, n, e, f)
			}
		}
		if !slices.Equal(l, before) {
			t.Error("P0.3: changed")
		}
	}
}

// P21.1: huge and negative numbers.
func TestSteps(t *testing.T) {
	for _, c := range [][3]int{
		{2, 3, 1}, {0, 3, 2}, {0, 1, 0}, {0, 0, -1}, {0, -1, -1}, {0, math.MinInt, -1}, {-1, math.MinInt, -1}, {0, math.MaxInt, 63}, {math.MaxInt - 1, math.MaxInt, 62},
		{0, 4096, 12}, {4095, 4096, 12}, {4096, 4097, 1}, {1 << 40, 1<<40 + 1, 1}, {1<<62 - 1, 1 << 62, 62},
	} {
		if got := merkle.Steps(c[0], c[1]); got != c[2] {
			t.Error("P21.1: steps", c, got)
		}
	}
}

// P21.1, P21.3: ways that aren't of the leaf.
func TestWrongWays(t *testing.T) {
	l := sums(11)
	r := merkle.Root(l)
	for i := range l {
		w, _ := merkle.Way(l, i)
		for _, bad := range [][]api.Digest{w[:len(w)-1], append(slices.Clone(w), leaf())} {
			if d, e := merkle.Lead(l[i], i, 11, bad); e != api.ErrForm || d != (api.Digest{}) {
				t.Error("P21.1: how many", i, e)
			}
		}
		if d, e := merkle.Lead(leaf(99), i, 11, w); e != api.OK || d == r {
			t.Error("P21.3: another leaf", i, e)
		}
		for k := range w {
			bad := slices.Clone(w)
			bad[k][5]++
			if d, e := merkle.Lead(l[i], i, 11, bad); e != api.OK || d == r {
				t.Error("P21.3: another way", i, k, e)
			}
		}
		for j := range l {
			if j != i && merkle.Steps(j, 11) == len(w) {
				if d, _ := merkle.Lead(l[i], j, 11, w); d == r {
					t.Error("P21.3: another place", i, j)
				}
			}
		}
	}
	// A pair's sum isn't a leaf's of its bytes.
	a, b := leaf(1), leaf(2)
	if merkle.Leaf(append(append([]byte{}, a[:]...), b[:]...)) == merkle.Pair(a, b) {
		t.Error("P21.3: a leaf for a pair")
	}
}

// P0.3: new memory.
func TestMemory(t *testing.T) {
	l := sums(5)
	w, _ := merkle.Way(l, 0)
	clear(w)
	_ = append(w[:0], leaf(), leaf(), leaf())
	if again, _ := merkle.Way(l, 0); l[1] != leaf(1, 0) || again[0] != l[1] {
		t.Error("P0.3:", again)
	}
}
