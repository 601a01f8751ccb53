package octet_test

import (
	"bytes"
	"math"
	"math/rand"
	"testing"

	"drogher/api"
	"drogher/octet"
)

// P2.1: numbers of each length, the lengths that count as others, and the example.
func TestPut(t *testing.T) {
	for _, c := range []struct {
		b    []byte
		n    int
		x    uint64
		want []byte
	}{
		{nil, 2, 258, []byte{1, 2}},
		{[]byte{9}, 4, 0x01020304, []byte{9, 1, 2, 3, 4}},
		{nil, 1, 0x0102, []byte{2}},
		{nil, 0, 0x0102, []byte{2}},
		{nil, -5, 0x0102, []byte{2}},
		{nil, math.MinInt, 0x0102, []byte{2}},
		{nil, 8, 0x0102030405060708, []byte{1, 2, 3, 4, 5, 6, 7, 8}},
		{nil, 9, 1, []byte{0, 0, 0, 0, 0, 0, 0, 1}},
		{nil, math.MaxInt, 1, []byte{0, 0, 0, 0, 0, 0, 0, 1}},
		{nil, 3, math.MaxUint64, []byte{255, 255, 255}},
	} {
		if got := octet.Put(c.b, c.n, c.x); !bytes.Equal(got, c.want) {
			t.Error("P2.1:", c.b, c.n, c.x, got)
		}
	}
}

// P0.3: the room behind the list's end is left alone.
func TestPutIsNewMemory(t *testing.T) {
	room := []byte{1, 2, 3, 4, 5, 6}
	got := octet.Put(room[:2], 2, 0x0909)
	if !bytes.Equal(room, []byte{1, 2, 3, 4, 5, 6}) || !bytes.Equal(got, []byte{1, 2, 9, 9}) {
		t.Error("P0.3:", room, got)
	}
	got[0] = 77
	if room[0] != 1 {
		t.Error("P0.3: shared")
	}
}

// P2.1: which error, at the edges.
func TestGetErrors(t *testing.T) {
	b := []byte{1, 2, 3}
	for _, c := range []struct {
		at, n int
		want  api.Errno
	}{
		{0, 0, api.ErrArg}, {0, 9, api.ErrArg}, {-1, -1, api.ErrArg}, {99, math.MaxInt, api.ErrArg},
		{-1, 1, api.ErrRange}, {3, 1, api.ErrRange}, {2, 2, api.ErrRange}, {0, 4, api.ErrRange},
		{math.MaxInt, 8, api.ErrRange}, {math.MinInt, 8, api.ErrRange},
		{0, 3, api.OK}, {2, 1, api.OK},
	} {
		x, e := octet.Get(b, c.at, c.n)
		if e != c.want || e != api.OK && x != 0 {
			t.Error("P2.1:", c, x, e)
		}
	}
	if _, e := octet.Get(nil, 0, 1); e != api.ErrRange {
		t.Error("P2.1: of nothing", e)
	}
}

// P2.2: there and back.
func TestThereAndBack(t *testing.T) {
	r := rand.New(rand.NewSource(1))
	for range 500 {
		b := make([]byte, r.Intn(10))
		r.Read(b)
		n, x := 1+r.Intn(8), r.Uint64()
		got, e := octet.Get(octet.Put(b, n, x), len(b), n)
		if e != api.OK || got != x<<(64-8*n)>>(64-8*n) {
			t.Fatal("P2.2:", n, x, got, e)
		}
	}
}

// digit is a digit, found bit by bit.
func digit(b []byte, i, w int) int {
	d := 0
	for k := i * w; k < (i+1)*w; k++ {
		d = 2*d + int(b[k/8]>>(7-k%8)&1)
	}
	return d
}

// P2.1: digits one by one, and all.
func TestDigits(t *testing.T) {
	b := []byte{0xa5, 0x00, 0xff, 0x1b}
	if octet.Digit([]byte{0xa5}, 1, 4) != 5 {
		t.Error("P2.1: the example")
	}
	for _, w := range []int{1, 2, 4, 8} {
		l := octet.Digits(b, w)
		if len(l) != 32/w {
			t.Fatal("P2.1: how many by", w, len(l))
		}
		for i := range l {
			if l[i] != digit(b, i, w) || octet.Digit(b, i, w) != l[i] {
				t.Error("P2.1:", i, w, l[i])
			}
		}
		for _, i := range []int{-1, len(l), math.MinInt, math.MaxInt} {
			if octet.Digit(b, i, w) != 0 {
				t.Error("P2.1: no digit", i, w)
			}
		}
	}
	for _, w := range []int{0, 3, 5, -1, 16, math.MinInt, math.MaxInt} {
		if octet.Digit(b, 0, w) != 0 || len(octet.Digits(b, w)) != 0 || octet.Check(b, w) != 0 {
			t.Error("P2.1: no width", w)
		}
	}
}

// P2.1: the check, with more than 65536 at once, too.
func TestCheck(t *testing.T) {
	factor := map[int]int{1: 128, 2: 64, 4: 16, 8: 1}
	r := rand.New(rand.NewSource(2))
	for _, n := range []int{0, 1, 2, 32, 34, 1000, 70000} {
		b := make([]byte, n)
		r.Read(b)
		for w, f := range factor {
			sum := 0
			for i := range n * 8 / w {
				sum += 1<<w - 1 - digit(b, i, w)
			}
			if got := octet.Check(b, w); int(got) != sum*f%65536 {
				t.Error("P2.1: check", n, w, got)
			}
		}
	}
}

// P2.3: one digit more is a factor less.
func TestCheckFalls(t *testing.T) {
	for w, f := range map[int]uint16{1: 128, 2: 64, 4: 16, 8: 1} {
		b := []byte{0, 0}
		before := octet.Check(b, w)
		b[1] = 1
		if before-octet.Check(b, w) != f {
			t.Error("P2.3:", w)
		}
	}
}
