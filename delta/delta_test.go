package delta_test

import (
	"bytes"
	"math"
	"math/rand"
	"reflect"
	"slices"
	"testing"

	"drogher/api"
	"drogher/delta"
	"drogher/plan"
)

// P17.1: how many blocks, and which bytes they have.
func TestBlocks(t *testing.T) {
	for _, c := range [][3]int{
		{300, 128, 3}, {256, 128, 2}, {257, 128, 3}, {0, 128, 0}, {1, 128, 1}, {5, 1, 5}, {-1, 128, 0}, {300, 0, 0}, {300, -1, 0},
		{math.MaxInt, 1, math.MaxInt}, {math.MaxInt, math.MaxInt, 1}, {math.MaxInt, 2, math.MaxInt/2 + 1}, {math.MinInt, 128, 0}, {1, math.MinInt, 0},
	} {
		if got := delta.Blocks(c[0], c[1]); got != c[2] {
			t.Error("P17.1: blocks", c, got)
		}
	}
	b := []byte("0123456789")
	for _, c := range []struct {
		block, i int
		want     string
	}{
		{4, 0, "0123"}, {4, 1, "4567"}, {4, 2, "89"}, {4, 3, ""}, {4, -1, ""}, {10, 0, "0123456789"}, {11, 0, "0123456789"}, {0, 0, ""}, {-1, 0, ""},
		{math.MaxInt, 0, "0123456789"}, {math.MaxInt, 1, ""}, {math.MaxInt, math.MaxInt, ""}, {1, math.MinInt, ""},
	} {
		if got := delta.Block(b, c.block, c.i); string(got) != c.want {
			t.Error("P17.1: block", c, got)
		}
	}
	clear(delta.Block(b, 4, 0))
	_ = append(delta.Block(b, 4, 0), 'x')
	if string(b) != "0123456789" {
		t.Error("P0.3: shared")
	}
}

// P17.1: literal plans, and how long writings may be.
func TestLiteralAndMost(t *testing.T) {
	b := []byte("abc")
	l := delta.Literal(b)
	if !reflect.DeepEqual(l, []api.Step{{Kind: api.Lit, Len: 3, Data: []byte("abc")}}) {
		t.Error("P17.1: literal", l)
	}
	clear(b)
	if string(l[0].Data) != "abc" {
		t.Error("P0.3: kept")
	}
	if len(delta.Literal(nil)) != 0 || len(delta.Literal(make([]byte, 4097))) != 0 || len(delta.Literal(make([]byte, 4096))) != 1 {
		t.Error("P17.1: literal of none, or of too many")
	}
	for _, c := range [][2]int{{128, 140}, {4096, 4108}, {127, 0}, {4097, 0}, {-1, 0}, {math.MaxInt, 0}, {math.MinInt, 0}, {300, 312}} {
		if got := delta.Most(c[0]); got != c[1] {
			t.Error("P17.1: most", c, got)
		}
	}
}

// images are pairs, an old one and a new one made of it.
func images() [][2][]byte {
	r := rand.New(rand.NewSource(17))
	noise := func(n int) []byte {
		b := make([]byte, n)
		r.Read(b)
		return b
	}
	a := noise(3000)
	edited := bytes.Clone(a)
	for range 60 {
		edited[r.Intn(len(edited))]++
	}
	l := [][2][]byte{
		{nil, nil}, {nil, a}, {a, nil}, {a, edited}, {a, noise(2000)}, {a, append(bytes.Clone(a[1500:]), a[:1500]...)}, {a, a[:1]}, {a, a[2990:]},
		{a, slices.Concat(a[:500], noise(33), a[400:900], noise(5), a[2900:])}, {make([]byte, 2000), make([]byte, 2500)}, {make([]byte, 2500), make([]byte, 2000)},
	}
	for range 80 {
		old := noise(1 + r.Intn(2000))
		var new []byte
		for range r.Intn(40) {
			if r.Intn(4) > 0 {
				at := r.Intn(len(old))
				part := bytes.Clone(old[at:min(len(old), at+16+r.Intn(150))])
				for k := range part {
					if r.Intn(30) == 0 {
						part[k]++
					}
				}
				new = append(new, part...)
			} else {
				new = append(new, noise(r.Intn(20))...)
			}
		}
		l = append(l, [2][]byte{old, new})
	}
	return l
}

// P17.2: each plan makes its block.
func TestPlans(t *testing.T) {
	kinds := map[uint8]int{}
	for i, c := range images() {
		old, new := c[0], c[1]
		a, b := bytes.Clone(old), bytes.Clone(new)
		for _, block := range []int{128, 200, 512, 4096} {
			l, e := delta.Plans(old, new, block)
			if e != api.OK || len(l) != delta.Blocks(len(new), block) {
				t.Fatal("P17.2:", i, block, e, len(l))
			}
			for k, p := range l {
				want := delta.Block(new, block, k)
				got, e := plan.Eval(p, plan.Bytes(old), len(want))
				if e != api.OK || !bytes.Equal(got, want) {
					t.Fatal("P17.2: block", i, block, k, e)
				}
				if n := plan.Size(p); n > delta.Most(block) || n < 1 {
					t.Error("P17.2: size", i, block, k, n)
				}
				for _, s := range p {
					kinds[s.Kind]++
				}
			}
			again, _ := delta.Plans(old, new, block)
			if !reflect.DeepEqual(again, l) {
				t.Error("P0.5: not the same")
			}
		}
		if !bytes.Equal(old, a) || !bytes.Equal(new, b) {
			t.Fatal("P0.3: changed")
		}
	}
	if kinds[api.Copy] == 0 || kinds[api.Add] == 0 || kinds[api.Lit] == 0 {
		t.Error("P17.2: a kind never comes", kinds)
	}
}

// P17.3: both images are the same.
func TestSame(t *testing.T) {
	r := rand.New(rand.NewSource(18))
	for _, n := range []int{1, 7, 127, 128, 129, 500, 5000} {
		noise := make([]byte, n)
		r.Read(noise)
		for _, b := range [][]byte{noise, make([]byte, n), bytes.Repeat([]byte("ab"), n)} {
			for _, block := range []int{128, 150, 4096} {
				l, e := delta.Plans(b, bytes.Clone(b), block)
				if e != api.OK || len(l) != delta.Blocks(len(b), block) {
					t.Fatal("P17.3:", e)
				}
				for k, p := range l {
					if len(p) != 1 || p[0].Kind != api.Copy || p[0].From != k*block || p[0].Len != len(delta.Block(b, block, k)) || len(p[0].Data) != 0 {
						t.Error("P17.3:", n, block, k, p)
					}
				}
			}
		}
	}
}

// P17.1: what is refused.
func TestRefused(t *testing.T) {
	for _, block := range []int{0, -1, 127, 4097, math.MinInt, math.MaxInt} {
		if l, e := delta.Plans([]byte("a"), []byte("b"), block); e != api.ErrArg || len(l) != 0 {
			t.Error("P17.1: plans", block, e)
		}
	}
}
