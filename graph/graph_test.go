package graph_test

import (
	"math"
	"math/rand"
	"slices"
	"testing"

	"drogher/api"
	"drogher/graph"
)

func cp(from, n int) api.Step { return api.Step{Kind: api.Copy, From: from, Len: n} }

func add(from, n int) api.Step {
	return api.Step{Kind: api.Add, From: from, Len: n, Data: make([]byte, n)}
}

func lit(n int) api.Step { return api.Step{Kind: api.Lit, Len: n, Data: make([]byte, n)} }

func same(a, b [][]int) bool { return slices.EqualFunc(a, b, slices.Equal[[]int]) }

// P18.1: in whose places a plan asks.
func TestReads(t *testing.T) {
	for i, c := range []struct {
		l           []api.Step
		block, many int
		want        []int
		e           api.Errno
	}{
		{[]api.Step{cp(127, 2)}, 128, 2, []int{0, 1}, api.OK}, {[]api.Step{cp(127, 1)}, 128, 2, []int{0}, api.OK}, {[]api.Step{cp(128, 128)}, 128, 9, []int{1}, api.OK},
		{[]api.Step{add(127, 2)}, 128, 1, []int{0}, api.OK}, {[]api.Step{cp(127, 2)}, 128, 0, nil, api.OK}, {[]api.Step{lit(300)}, 128, 4, nil, api.OK}, {nil, 128, 4, nil, api.OK},
		{[]api.Step{cp(900, 1), lit(4), add(10, 1), cp(899, 4)}, 128, 4096, []int{0, 7}, api.OK}, {[]api.Step{cp(0, 4096)}, 128, 4096, seq(32), api.OK}, {[]api.Step{cp(1<<31-1, 4096)}, 4096, 4096, nil, api.OK},
		{nil, 127, 0, nil, api.ErrArg}, {nil, 4097, 0, nil, api.ErrArg}, {nil, 128, -1, nil, api.ErrArg}, {nil, 128, 4097, nil, api.ErrArg}, {nil, math.MinInt, math.MaxInt, nil, api.ErrArg},
		{[]api.Step{{}}, 128, 4, nil, api.ErrForm}, {[]api.Step{cp(0, 1), cp(-1, 1)}, 128, 4, nil, api.ErrForm}, {[]api.Step{{}}, 0, 4, nil, api.ErrArg},
	} {
		if got, e := graph.Reads(c.l, c.block, c.many); e != c.e || !slices.Equal(got, c.want) {
			t.Error("P18.1: reads", i, got, e)
		}
	}
}

func seq(n int) (l []int) {
	for i := range n {
		l = append(l, i)
	}
	return l
}

// P18.1: who reads whom.
func TestEdges(t *testing.T) {
	plans := [][]api.Step{{cp(0, 128)}, {cp(0, 128), cp(600, 9)}, {lit(5)}, {add(100, 200), cp(384, 1)}, nil}
	l, e := graph.Edges(plans, 128)
	if want := [][]int{nil, {0, 4}, nil, {0, 1, 2}, nil}; e != api.OK || !same(l, want) {
		t.Error("P18.1: edges", l, e)
	}
	if l, e := graph.Edges(nil, 128); e != api.OK || len(l) != 0 {
		t.Error("P18.1: of nothing", e)
	}
	if l, e := graph.Edges(make([][]api.Step, 4096), 128); e != api.OK || len(l) != 4096 {
		t.Error("P18.1: as many as there may be", e)
	}
	if l, e := graph.Edges(make([][]api.Step, 4097), 128); e != api.ErrArg || len(l) != 0 {
		t.Error("P18.1: too many", e)
	}
	for _, block := range []int{127, 4097, 0, math.MinInt} {
		if l, e := graph.Edges([][]api.Step{{{}}}, block); e != api.ErrArg || len(l) != 0 {
			t.Error("P18.1: block", block, e)
		}
	}
	if l, e := graph.Edges([][]api.Step{{cp(0, 1)}, {cp(0, 0)}}, 128); e != api.ErrForm || len(l) != 0 {
		t.Error("P18.1: wrong step", e)
	}
}

// P18.1, P18.2: turned round, and back.
func TestTurned(t *testing.T) {
	r := rand.New(rand.NewSource(18))
	for range 300 {
		n := r.Intn(12)
		edges := make([][]int, n)
		for i := range edges {
			for j := range n {
				if j != i && r.Intn(3) == 0 {
					edges[i] = append(edges[i], j)
				}
			}
		}
		l, e := graph.Turned(edges)
		if e != api.OK || len(l) != n {
			t.Fatal("P18.1: turned", e)
		}
		for i := range n {
			for j := range n {
				if slices.Contains(edges[i], j) != slices.Contains(l[j], i) {
					t.Fatal("P18.1: turned", edges, l)
				}
			}
		}
		if back, e := graph.Turned(l); e != api.OK || !same(back, edges) {
			t.Fatal("P18.2:", edges, l, back, e)
		}
	}
	for i, edges := range [][][]int{
		{{0}}, {{1}}, {{-1}, nil}, {{1, 1}, nil}, {{2, 1}, nil, nil}, {nil, {math.MaxInt}}, {nil, {math.MinInt}}, make([][]int, 4097), {{1, 2, 3}, nil, nil},
	} {
		if l, e := graph.Turned(edges); e != api.ErrForm || len(l) != 0 {
			t.Error("P18.1: refused", i, e)
		}
	}
	if l, e := graph.Turned(make([][]int, 4096)); e != api.OK || len(l) != 4096 {
		t.Error("P18.1: as many as there may be", e)
	}
}
