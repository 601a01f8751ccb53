package match_test

import (
	"bytes"
	"math"
	"math/rand"
	"slices"
	"testing"

	"drogher/api"
	"drogher/match"
)

// P15.1: which pieces are right.
func TestMay(t *testing.T) {
	p := func(new, old, n int) api.Piece { return api.Piece{New: new, Old: old, Len: n} }
	for i, c := range []struct {
		l        []api.Piece
		old, new int
		want     bool
	}{
		{nil, 0, 0, true}, {nil, 9, 9, true}, {[]api.Piece{p(0, 0, 1)}, 1, 1, true}, {[]api.Piece{p(0, 0, 0)}, 1, 1, false}, {[]api.Piece{p(0, 0, -1)}, 1, 1, false},
		{[]api.Piece{p(0, 3, 7), p(7, 0, 3)}, 10, 10, true}, {[]api.Piece{p(0, 3, 7), p(6, 0, 3)}, 10, 10, false}, {[]api.Piece{p(5, 0, 5), p(0, 0, 5)}, 10, 10, false},
		{[]api.Piece{p(1, 0, 2), p(5, 0, 2)}, 2, 7, true}, {[]api.Piece{p(1, 0, 2), p(5, 0, 2)}, 2, 6, false}, {[]api.Piece{p(0, 0, 3)}, 2, 9, false},
		{[]api.Piece{p(-1, 0, 2)}, 9, 9, false}, {[]api.Piece{p(0, -1, 2)}, 9, 9, false}, {[]api.Piece{p(0, 9, 1)}, 9, 9, false}, {[]api.Piece{p(9, 0, 1)}, 9, 9, false},
		{[]api.Piece{p(0, 0, math.MaxInt)}, 9, 9, false}, {[]api.Piece{p(math.MaxInt, 0, math.MaxInt)}, 9, 9, false}, {[]api.Piece{p(1, 1, math.MaxInt)}, math.MaxInt, math.MaxInt, false},
		{[]api.Piece{p(0, 0, 1)}, -1, 1, false}, {[]api.Piece{p(0, 1, 1)}, math.MinInt, 1, false}, {[]api.Piece{p(1, 0, 1)}, 1, math.MinInt, false},
		{[]api.Piece{p(0, 0, 1), p(math.MinInt, 0, 1)}, 2, 2, false},
	} {
		if match.May(c.l, c.old, c.new) != c.want {
			t.Error("P15.1: may", i)
		}
	}
}

// P15.1: how many bytes are the same.
func TestSame(t *testing.T) {
	old, new := []byte("abcdefgh"), []byte("xxabXdxx")
	for _, c := range []struct {
		p    api.Piece
		want int
	}{
		{api.Piece{New: 2, Old: 0, Len: 4}, 3}, {api.Piece{New: 2, Old: 0, Len: 1}, 1}, {api.Piece{New: 0, Old: 0, Len: 8}, 0}, {api.Piece{New: 0, Old: 0, Len: 9}, 0},
		{api.Piece{New: 2, Old: 0}, 0}, {api.Piece{New: 2, Old: 0, Len: 7}, 0}, {api.Piece{New: -1, Old: 0, Len: 3}, 0}, {api.Piece{New: math.MinInt, Old: math.MaxInt, Len: math.MinInt}, 0},
	} {
		if got := match.Same(old, new, c.p); got != c.want {
			t.Error("P15.1: same", c, got)
		}
	}
}

// images are pairs, an old one and a new one made of it.
func images() [][2][]byte {
	r := rand.New(rand.NewSource(15))
	noise := func(n int) []byte {
		b := make([]byte, n)
		r.Read(b)
		return b
	}
	a := noise(3000)
	edited := bytes.Clone(a)
	for range 60 {
		edited[r.Intn(len(edited))]++
	}
	l := [][2][]byte{
		{nil, nil}, {nil, a}, {a, nil}, {a, edited}, {a, noise(2000)}, {a, append(bytes.Clone(a[1500:]), a[:1500]...)},
		{a, slices.Concat(a[:500], noise(33), a[400:900], noise(5), a[2900:])}, {make([]byte, 2000), make([]byte, 2500)}, {make([]byte, 2500), make([]byte, 2000)},
		{bytes.Repeat([]byte("ab"), 500), bytes.Repeat([]byte("ba"), 400)}, {[]byte("abc"), []byte("abcd")},
	}
	for _, n := range []int{20, 32, 40, 60} { // a few bytes alike, among many others
		l = append(l, [2][]byte{a, slices.Concat(noise(300), a[1000:1000+n], noise(300))}, [2][]byte{a, slices.Concat(noise(300), a[2990:], a[:n], noise(300))})
	}
	for range 60 {
		old := noise(r.Intn(400))
		if r.Intn(2) == 0 {
			for i := range old {
				old[i] %= 3
			}
		}
		var new []byte
		for range r.Intn(8) {
			if len(old) > 0 && r.Intn(3) > 0 {
				at := r.Intn(len(old))
				part := bytes.Clone(old[at:min(len(old), at+r.Intn(80))])
				for k := range part {
					if r.Intn(9) == 0 {
						part[k]++
					}
				}
				new = append(new, part...)
			} else {
				new = append(new, noise(r.Intn(50))...)
			}
		}
		l = append(l, [2][]byte{old, new})
	}
	return l
}

// P15.1, P15.2, P15.3: what is found.
func TestFind(t *testing.T) {
	for i, c := range images() {
		old, new := c[0], c[1]
		a, b := bytes.Clone(old), bytes.Clone(new)
		l := match.Find(old, new)
		if !bytes.Equal(old, a) || !bytes.Equal(new, b) {
			t.Fatal("P0.3: changed")
		}
		if !match.May(l, len(old), len(new)) {
			t.Fatal("P15.1: found", i, l)
		}
		there := make([]bool, len(new))
		for _, p := range l {
			if 2*match.Same(old, new, p) < p.Len {
				t.Error("P15.2:", i, p)
			}
			for k := range p.Len {
				there[p.New+k] = true
			}
		}
		for k := 0; k+32 <= len(new); k++ {
			if bytes.Contains(old, new[k:k+32]) && !slices.Contains(there[k:k+32], true) {
				t.Error("P15.3: left out", i, k)
			}
		}
		if !slices.Equal(match.Find(old, new), l) {
			t.Error("P0.5: not the same", i)
		}
	}
}

// P15.3: both images are the same.
func TestFindSame(t *testing.T) {
	noise := make([]byte, 500)
	rand.New(rand.NewSource(16)).Read(noise)
	for _, b := range [][]byte{[]byte("a"), []byte("abcdefgh"), noise, make([]byte, 700), bytes.Repeat([]byte("ab"), 99)} {
		if l := match.Find(b, bytes.Clone(b)); len(l) != 1 || l[0] != (api.Piece{New: 0, Old: 0, Len: len(b)}) {
			t.Error("P15.3:", len(b), l)
		}
	}
	if len(match.Find(nil, []byte{})) != 0 {
		t.Error("P15.3: of nothing")
	}
}
