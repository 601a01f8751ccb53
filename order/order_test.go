package order_test

import (
	"math"
	"math/rand"
	"slices"
	"testing"

	"drogher/api"
	"drogher/order"
)

// plainly makes the order as the words of the chapter say, one by one.
func plainly(edges [][]int) (row, broken []int) {
	waits := func(i int) bool {
		for j := range edges {
			if slices.Contains(edges[j], i) && !slices.Contains(row, j) && !slices.Contains(broken, j) {
				return true
			}
		}
		return false
	}
	for len(row) < len(edges) {
		next, low := -1, -1
		for i := range edges {
			if slices.Contains(row, i) {
				continue
			}
			if next < 0 && !waits(i) {
				next = i
			}
			if low < 0 && !slices.Contains(broken, i) {
				low = i
			}
		}
		if next >= 0 {
			row = append(row, next)
		} else {
			broken = append(broken, low)
		}
	}
	return row, broken
}

// chance are lists by chance; of a row they read none behind, or none at all, so that nobody waits for oneself.
func chance(r *rand.Rand, n, often int, row []int) [][]int {
	edges := make([][]int, n)
	for i := range edges {
		for j := range n {
			if j != i && r.Intn(often) == 0 && (row == nil || slices.Index(row, i) < slices.Index(row, j)) {
				edges[i] = append(edges[i], j)
			}
		}
	}
	return edges
}

// P19.1, P19.2: against the words.
func TestOf(t *testing.T) {
	r := rand.New(rand.NewSource(19))
	for range 600 {
		n := r.Intn(14)
		edges := chance(r, n, 1+r.Intn(8), nil)
		row, broken := plainly(edges)
		a, b, e := order.Of(edges)
		if e != api.OK || !slices.Equal(a, row) || !slices.Equal(b, broken) {
			t.Fatal("P19.1:", edges, a, b, row, broken, e)
		}
		if !order.Right(edges, a, b) {
			t.Fatal("P19.2: not right", edges, a, b)
		}
	}
	for range 300 {
		n := r.Intn(14)
		edges := chance(r, n, 1+r.Intn(4), r.Perm(n))
		a, b, e := order.Of(edges)
		if e != api.OK || len(b) != 0 || !order.Right(edges, a, nil) {
			t.Fatal("P19.2: broken", edges, a, b, e)
		}
	}
}

// P19.1: the example, edges, what is refused.
func TestEdges(t *testing.T) {
	a, b, e := order.Of([][]int{{1}, {0}})
	if !slices.Equal(a, []int{1, 0}) || !slices.Equal(b, []int{0}) || e != api.OK {
		t.Error("P19.1: the example", a, b, e)
	}
	if a, b, e := order.Of(nil); len(a)+len(b) != 0 || e != api.OK || !order.Right(nil, nil, nil) {
		t.Error("P19.1: of nothing", e)
	}
	ring := make([][]int, 4096)
	for i := range ring {
		ring[i] = []int{(i + 1) % 4096}
	}
	if a, b, e := order.Of(ring); e != api.OK || len(a) != 4096 || !slices.Equal(b, []int{0}) || !order.Right(ring, a, b) || order.Right(ring, a, nil) {
		t.Error("P19.1: a ring", b, e)
	}
	for i, edges := range [][][]int{{{0}}, {{1}}, {{1, 1}, nil}, {nil, {-1}}, make([][]int, 4097), {{math.MaxInt}}} {
		if a, b, e := order.Of(edges); e != api.ErrForm || len(a)+len(b) != 0 || order.Right(edges, make([]int, len(edges)), nil) {
			t.Error("P19.1: refused", i, e)
		}
	}
}

// P19.1: which orders are right, tried against the words.
func TestRight(t *testing.T) {
	r := rand.New(rand.NewSource(20))
	right := 0
	for range 4000 {
		n := r.Intn(5)
		edges := chance(r, n, 1+r.Intn(6), nil)
		row := r.Perm(n)
		if n > 0 && r.Intn(8) == 0 {
			row[r.Intn(n)] = r.Intn(n+4) - 2
		}
		if r.Intn(12) == 0 {
			row = append(row, 0)
		}
		var broken []int
		for i := range n {
			if r.Intn(2) == 0 {
				broken = append(broken, i)
			}
		}
		if r.Intn(4) == 0 {
			broken = append(broken, math.MinInt, math.MaxInt, n, -1)
		}
		sorted := slices.Clone(row)
		slices.Sort(sorted)
		want := len(row) == n
		for i := range sorted {
			want = want && sorted[i] == i
		}
		for i := range edges {
			for _, j := range edges[i] { // i reads j
				if slices.Index(row, j) < slices.Index(row, i) && !slices.Contains(broken, i) {
					want = false
				}
			}
		}
		if order.Right(edges, row, broken) != want {
			t.Fatal("P19.1: right", edges, row, broken, want)
		}
		if want {
			right++
		}
	}
	if right < 100 {
		t.Error("P19.1: too few tried are right", right)
	}
}

// P0.3: nothing is changed.
func TestMemory(t *testing.T) {
	edges := [][]int{{1, 2}, {0}, nil}
	a, b, _ := order.Of(edges)
	clear(a)
	clear(b)
	again, _, _ := order.Of(edges)
	if len(edges[0]) != 2 || edges[0][0] != 1 || slices.Equal(again, a) {
		t.Error("P0.3:", edges, again)
	}
}
