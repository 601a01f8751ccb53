package limit_test

import (
	"math"
	"math/rand"
	"slices"
	"testing"

	"drogher/api"
	"drogher/huff"
	"drogher/limit"
)

// least is the least cost of all lengths for weights, by trying how many codes of each length there are.
func least(weights []uint32, most int) uint64 {
	var l []uint32
	for _, w := range weights {
		if w > 0 {
			l = append(l, w)
		}
	}
	slices.Sort(l)
	slices.Reverse(l)
	if len(l) == 0 {
		return 0
	}
	if len(l) == 1 {
		return uint64(l[0])
	}
	best := uint64(math.MaxUint64)
	var try func(at, n, room int, cost uint64)
	// The heaviest that are left get codes of n bits; room is how many codes of n bits there is room for.
	try = func(at, n, room int, cost uint64) {
		if at == len(l) {
			if room == 0 && cost < best {
				best = cost
			}
			return
		}
		if n > most || room > len(l)-at {
			return
		}
		c := cost
		for k := 0; k <= room && at+k <= len(l); k++ {
			try(at+k, n+1, 2*(room-k), c)
			if at+k < len(l) {
				c += uint64(n) * uint64(l[at+k])
			}
		}
	}
	try(0, 1, 2, 0)
	return best
}

// right tells off, if lengths aren't for weights.
func right(t *testing.T, weights []uint32, most int, lens []uint8) {
	t.Helper()
	if len(lens) != len(weights) || !huff.May(lens) {
		t.Fatal("P10.2: they may not be", weights, most, lens)
	}
	for i, n := range lens {
		if (n == 0) != (weights[i] == 0) || int(n) > most {
			t.Fatal("P10.2: not for the weights", weights, most, lens)
		}
		for j, m := range lens {
			if weights[i] > weights[j] && weights[j] > 0 && n > m {
				t.Fatal("P10.3:", weights, lens)
			}
		}
	}
}

// P10.1, P10.2, P10.3: against all that may be.
func TestLeastCost(t *testing.T) {
	r := rand.New(rand.NewSource(10))
	for range 600 {
		weights := make([]uint32, r.Intn(10))
		for i := range weights {
			switch r.Intn(4) {
			case 0:
				weights[i] = uint32(r.Intn(4))
			case 1:
				weights[i] = 1 << r.Intn(20)
			default:
				weights[i] = uint32(r.Intn(100))
			}
		}
		for most := 1; most <= 15; most += 1 + r.Intn(3) {
			many := 0
			for _, w := range weights {
				many += min(int(w), 1)
			}
			lens, e := limit.Lengths(weights, most)
			if many > 1<<most {
				if e != api.ErrArg || len(lens) != 0 {
					t.Fatal("P10.1: too many", e)
				}
				continue
			}
			if e != api.OK {
				t.Fatal("P10.1:", weights, most, e)
			}
			right(t, weights, most, lens)
			if got, want := limit.Cost(weights, lens), least(weights, most); got != want {
				t.Fatal("P10.2: cost", weights, most, lens, got, want)
			}
			again, _ := limit.Lengths(weights, most)
			if !slices.Equal(again, lens) {
				t.Fatal("P10.1: not the same each time")
			}
		}
	}
}

// P10.1: as many symbols as there may be, as heavy as they may be.
func TestMany(t *testing.T) {
	r := rand.New(rand.NewSource(11))
	for most := 9; most <= 15; most++ {
		weights := make([]uint32, 300)
		for i := range weights {
			weights[i] = r.Uint32() >> r.Intn(32)
		}
		weights[7] = math.MaxUint32
		lens, e := limit.Lengths(weights, most)
		if e != api.OK {
			t.Fatal("P10.1:", e)
		}
		right(t, weights, most, lens)
	}
	fibonacci := []uint32{1, 1}
	for len(fibonacci) < 40 {
		n := len(fibonacci)
		fibonacci = append(fibonacci, fibonacci[n-1]+fibonacci[n-2])
	}
	lens, _ := limit.Lengths(fibonacci, 15)
	right(t, fibonacci, 15, lens)
	even, e := limit.Lengths(slices.Repeat([]uint32{5}, 256), 8)
	if e != api.OK || !slices.Equal(even, slices.Repeat([]uint8{8}, 256)) {
		t.Error("P10.2: as many as there is room for", e)
	}
}

// P10.1: the examples, and what may not be.
func TestEdges(t *testing.T) {
	for _, c := range []struct {
		weights []uint32
		most    int
		want    uint64
	}{
		{[]uint32{1, 1, 2, 4}, 15, 14}, {[]uint32{1, 1, 2, 4}, 2, 16}, {[]uint32{0, 9, 0}, 1, 9}, {nil, 1, 0}, {[]uint32{0, 0}, 15, 0},
	} {
		lens, e := limit.Lengths(c.weights, c.most)
		if e != api.OK || limit.Cost(c.weights, lens) != c.want {
			t.Error("P10.1:", c, lens, e)
		}
		right(t, c.weights, c.most, lens)
	}
	for i, c := range []struct {
		weights []uint32
		most    int
	}{
		{nil, 0}, {nil, 16}, {nil, -1}, {nil, math.MinInt}, {nil, math.MaxInt}, {make([]uint32, 301), 15},
		{[]uint32{1, 1, 1}, 1}, {slices.Repeat([]uint32{1}, 257), 8}, {[]uint32{1}, 0},
	} {
		if lens, e := limit.Lengths(c.weights, c.most); e != api.ErrArg || len(lens) != 0 {
			t.Error("P10.1: refused", i, e)
		}
	}
	if _, e := limit.Lengths(append(slices.Repeat([]uint32{1}, 256), 0, 0), 8); e != api.OK {
		t.Error("P10.1: symbols without weight don't count", e)
	}
}

// P10.1: the cost of rows that aren't as long as each other; P0.3.
func TestCost(t *testing.T) {
	if limit.Cost([]uint32{2, 3, 5}, []uint8{1, 2}) != 8 || limit.Cost([]uint32{2}, []uint8{7, 200}) != 14 || limit.Cost(nil, []uint8{1}) != 0 {
		t.Error("P10.1: cost")
	}
	if limit.Cost([]uint32{math.MaxUint32, math.MaxUint32}, []uint8{255, 255}) != 2*255*math.MaxUint32 {
		t.Error("P10.1: a great cost")
	}
	weights := []uint32{3, 1, 2}
	lens, _ := limit.Lengths(weights, 15)
	if !slices.Equal(weights, []uint32{3, 1, 2}) {
		t.Error("P0.3: changed")
	}
	clear(lens)
	if again, _ := limit.Lengths(weights, 15); !slices.Equal(again, []uint8{1, 2, 2}) {
		t.Error("P0.3: shared", again)
	}
}
