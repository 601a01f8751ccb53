package huff_test

import (
	"math/rand"
	"slices"
	"testing"

	"drogher/api"
	"drogher/bits"
	"drogher/huff"
)

func ones(n int, x uint8) []uint8 { return slices.Repeat([]uint8{x}, n) }

// P9.1: which lengths may be.
func TestMay(t *testing.T) {
	long := make([]uint8, 0, 16)
	for n := uint8(1); n <= 15; n++ {
		long = append(long, n)
	}
	long = append(long, 15)
	deep := slices.Clone(long)
	deep[14], deep[15] = 16, 16
	for i, c := range []struct {
		lens []uint8
		want bool
	}{
		{nil, true}, {[]uint8{}, true}, {ones(300, 0), true}, {ones(301, 0), false},
		{[]uint8{1}, true}, {[]uint8{0, 0, 1, 0}, true}, {[]uint8{2}, false}, {[]uint8{15}, false}, {[]uint8{16}, false}, {[]uint8{255}, false},
		{[]uint8{1, 1}, true}, {[]uint8{1, 1, 1}, false}, {[]uint8{1, 2}, false}, {[]uint8{2, 1, 2}, true}, {[]uint8{2, 1, 2, 15}, false},
		{long, true}, {deep, false}, {long[:15], false}, {ones(256, 8), true}, {ones(255, 8), false}, {ones(257, 8), false},
		{append(ones(256, 8), ones(44, 0)...), true}, {append(ones(256, 8), ones(45, 0)...), false},
		{[]uint8{1, 1, 16}, false}, {[]uint8{0, 17}, false},
	} {
		l, e := huff.Codes(c.lens)
		tab, f := huff.New(c.lens)
		if huff.May(c.lens) != c.want || (e == api.OK) != c.want || (f == api.OK) != c.want {
			t.Error("P9.1: may", i, e, f)
		}
		if !c.want && (e != api.ErrForm || f != api.ErrForm || len(l) != 0 || tab != nil) {
			t.Error("P9.1: refused", i, e, f)
		}
	}
}

// P9.1: codes.
func TestCodes(t *testing.T) {
	for _, c := range []struct {
		lens []uint8
		want []uint16
	}{
		{[]uint8{2, 1, 2}, []uint16{2, 0, 3}}, {[]uint8{3, 3, 3, 3, 3, 2, 4, 4}, []uint16{2, 3, 4, 5, 6, 0, 14, 15}},
		{[]uint8{0, 1}, []uint16{0, 0}}, {[]uint8{1, 0, 1}, []uint16{0, 0, 1}}, {ones(4, 0), []uint16{0, 0, 0, 0}}, {nil, nil},
	} {
		if l, e := huff.Codes(c.lens); e != api.OK || !slices.Equal(l, c.want) {
			t.Error("P9.1: codes", c.lens, l, e)
		}
	}
}

// shuffled are lengths that may be: a code is split again and again.
func shuffled(r *rand.Rand) []uint8 {
	l := []uint8{1, 1}
	for range r.Intn(200) {
		i := r.Intn(len(l))
		if l[i] < 15 {
			l[i]++
			l = append(l, l[i])
		}
	}
	for range r.Intn(300 - len(l)) {
		l = append(l, 0)
	}
	r.Shuffle(len(l), func(i, j int) { l[i], l[j] = l[j], l[i] })
	return l
}

// P9.2: no code begins another one, and what is written is read.
func TestThereAndBack(t *testing.T) {
	r := rand.New(rand.NewSource(9))
	for range 60 {
		lens := shuffled(r)
		codes, e := huff.Codes(lens)
		tab, f := huff.New(lens)
		if e != api.OK || f != api.OK {
			t.Fatal("P9.1:", e, f)
		}
		var have []int
		for i, n := range lens {
			if n == 0 {
				continue
			}
			for _, j := range have {
				m := min(n, lens[j])
				if codes[i]>>(n-m) == codes[j]>>(lens[j]-m) {
					t.Fatal("P9.2: one begins the other", i, j)
				}
			}
			have = append(have, i)
		}
		var row []int
		w := bits.NewWriter()
		for range 100 {
			i := have[r.Intn(len(have))]
			row = append(row, i)
			w.Code(uint32(codes[i]), int(lens[i]))
		}
		rd := bits.NewReader(w.Bytes())
		for _, i := range row {
			if x, e := tab.Next(rd); e != api.OK || x != i {
				t.Fatal("P9.2: read", x, i, e)
			}
		}
		if rd.At() != w.Len() {
			t.Fatal("P9.2: at", rd.At())
		}
	}
}

// P9.1: what can't be read takes nothing.
func TestNextErrors(t *testing.T) {
	none, _ := huff.New(nil)
	one, _ := huff.New([]uint8{0, 0, 1})
	deep, _ := huff.New([]uint8{1, 2, 3, 4, 5, 6, 7, 8, 9, 9})
	for i, c := range []struct {
		tab  *huff.Table
		b    []byte
		at   int
		want api.Errno
	}{
		{none, nil, 0, api.ErrForm}, {none, []byte{0}, 3, api.ErrForm}, {none, []byte{255}, 8, api.ErrForm},
		{one, nil, 0, api.ErrShort}, {one, []byte{1}, 8, api.ErrShort}, {one, []byte{1}, 0, api.ErrForm}, {one, []byte{0x80}, 7, api.ErrForm},
		{deep, []byte{255}, 0, api.ErrShort}, {deep, []byte{255}, 8, api.ErrShort}, {deep, nil, 0, api.ErrShort},
	} {
		r := bits.NewReader(c.b)
		r.Seek(c.at)
		if x, e := c.tab.Next(r); e != c.want || x != 0 || r.At() != c.at {
			t.Error("P9.1: next", i, x, e, r.At())
		}
	}
	r := bits.NewReader([]byte{0x80})
	r.Seek(6)
	if x, e := one.Next(r); x != 2 || e != api.OK || r.At() != 7 {
		t.Error("P9.1: of one code", x, e)
	}
}

// P0.1, P0.3: nil, and memory.
func TestNilAndMemory(t *testing.T) {
	var none *huff.Table
	tab, _ := huff.New([]uint8{1, 1})
	if _, e := none.Next(bits.NewReader([]byte{1})); e != api.ErrArg {
		t.Error("P9.1: a nil table", e)
	}
	if _, e := tab.Next(nil); e != api.ErrArg {
		t.Error("P9.1: a nil reader", e)
	}
	lens := []uint8{2, 1, 2}
	tab, _ = huff.New(lens)
	a, _ := huff.Codes(lens)
	clear(a)
	b, _ := huff.Codes(lens)
	clear(lens)
	if x, e := tab.Next(bits.NewReader([]byte{0})); x != 1 || e != api.OK || b[2] != 3 {
		t.Error("P0.3:", x, e)
	}
}
