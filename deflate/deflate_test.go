package deflate_test

import (
	"bytes"
	"compress/flate"
	"io"
	"math"
	"math/rand"
	"testing"

	"drogher/api"
	"drogher/deflate"
	"drogher/lz"
)

// told is what a packed text tells to another program; it must be read to its last byte.
func told(t *testing.T, p []byte) []byte {
	t.Helper()
	in := bytes.NewReader(p)
	b, err := io.ReadAll(flate.NewReader(in))
	if err != nil || in.Len() > 0 {
		t.Fatal("P12.2:", err, in.Len(), "bytes left")
	}
	return b
}

// P12.1: symbols of lengths and distances, each of them.
func TestSymbols(t *testing.T) {
	lens := []int{3, 4, 5, 6, 7, 8, 9, 10, 11, 13, 15, 17, 19, 23, 27, 31, 35, 43, 51, 59, 67, 83, 99, 115, 131, 163, 195, 227, 258}
	bits := []int{0, 0, 0, 0, 0, 0, 0, 0, 1, 1, 1, 1, 2, 2, 2, 2, 3, 3, 3, 3, 4, 4, 4, 4, 5, 5, 5, 5, 0}
	for n := 3; n <= 258; n++ {
		i := 0
		for i+1 < len(lens) && lens[i+1] <= n {
			i++
		}
		if s, m, x := deflate.Length(n); s != 257+i || m != bits[i] || int(x) != n-lens[i] {
			t.Error("P12.1: length", n, s, m, x)
		}
	}
	least := []int{1, 2, 3, 4, 5, 7, 9, 13, 17, 25, 33, 49, 65, 97, 129, 193, 257, 385, 513, 769, 1025, 1537, 2049, 3073, 4097, 6145, 8193, 12289, 16385, 24577}
	more := []int{0, 0, 0, 0, 1, 1, 2, 2, 3, 3, 4, 4, 5, 5, 6, 6, 7, 7, 8, 8, 9, 9, 10, 10, 11, 11, 12, 12, 13, 13}
	for n := 1; n <= 32768; n++ {
		i := 0
		for i+1 < len(least) && least[i+1] <= n {
			i++
		}
		if s, m, x := deflate.Distance(n); s != i || m != more[i] || int(x) != n-least[i] {
			t.Error("P12.1: distance", n, s, m, x)
		}
	}
	if s, m, x := deflate.Length(13); s != 266 || m != 1 || x != 0 {
		t.Error("P12.1: the example")
	}
	for _, n := range []int{2, 259, 0, -1, math.MinInt, math.MaxInt} {
		if s, m, x := deflate.Length(n); s != -1 || m != 0 || x != 0 {
			t.Error("P12.1: no length", n)
		}
	}
	for _, n := range []int{0, 32769, -1, math.MinInt, math.MaxInt} {
		if s, m, x := deflate.Distance(n); s != -1 || m != 0 || x != 0 {
			t.Error("P12.1: no distance", n)
		}
	}
}

// P12.1: Most.
func TestMost(t *testing.T) {
	for _, c := range [][2]int{
		{0, 5}, {-1, 5}, {math.MinInt, 5}, {1, 6}, {65535, 65540}, {65536, 65546}, {131070, 131080}, {131071, 131086},
		{1<<31 - 1, 1<<31 - 1 + 5*32769}, {math.MaxInt, 1<<31 - 1 + 5*32769},
	} {
		if got := deflate.Most(c[0]); got != c[1] {
			t.Error("P12.1: most", c, got)
		}
	}
}

// texts are ordinary ones, and edges.
func texts() [][]byte {
	r := rand.New(rand.NewSource(13))
	noise := make([]byte, 131071)
	r.Read(noise)
	few := make([]byte, 5000)
	for i := range few {
		few[i] = "aaaabbcd"[r.Intn(8)]
	}
	return [][]byte{
		nil, []byte("a"), []byte("aaaa"), []byte("a rose is a rose is a rose"), few, noise, noise[:65535], noise[:65536], noise[:131070], noise[:4000],
		make([]byte, 100000), append(append(bytes.Clone(noise[:400]), few...), noise[:400]...), bytes.Repeat([]byte("ab"), 500),
	}
}

// P12.1: stored blocks, byte for byte.
func TestStored(t *testing.T) {
	for i, b := range texts() {
		var want []byte
		for rest := b; ; {
			n := min(len(rest), 65535)
			last := byte(0)
			if n == len(rest) {
				last = 1
			}
			want = append(want, last, byte(n), byte(n>>8), ^byte(n), ^byte(n>>8))
			want = append(want, rest[:n]...)
			if rest = rest[n:]; len(rest) == 0 {
				break
			}
		}
		p := deflate.Stored(b)
		if !bytes.Equal(p, want) || len(p) != deflate.Most(len(b)) || !bytes.Equal(told(t, p), b) {
			t.Error("P12.1: stored", i, len(p))
		}
	}
}

// P12.2: tokens, as they are found, and each length and distance.
func TestBlocks(t *testing.T) {
	var rows [][]api.Token
	for _, b := range texts() {
		rows = append(rows, lz.Find(b, 0), lz.Find(b, 3))
	}
	var each []api.Token
	for range 32768 {
		each = append(each, api.Token{Lit: byte(len(each) * 7)})
	}
	for n := 3; n <= 258; n++ {
		each = append(each, api.Token{Len: n, Dist: n})
	}
	for d := 1; d <= 32768; d += 1 + d/9 {
		each = append(each, api.Token{Len: 3, Dist: d})
	}
	one := []api.Token{{Lit: 5}, {Len: 258, Dist: 1}}
	rows = append(rows, each, one, append(one, one...))
	for i, l := range rows {
		want, _ := lz.Expand(l, math.MaxInt)
		for _, f := range []func([]api.Token) ([]byte, api.Errno){deflate.Fixed, deflate.Dynamic} {
			p, e := f(l)
			if e != api.OK || !bytes.Equal(told(t, p), want) {
				t.Error("P12.2:", i, e)
			}
			if q, _ := f(l); !bytes.Equal(p, q) {
				t.Error("P12.1: not the same", i)
			}
		}
	}
}

// P12.1: rows with something that is no token.
func TestRefused(t *testing.T) {
	for i, l := range [][]api.Token{
		{{Len: 2, Dist: 1}}, {{Lit: 1}, {Lit: 1, Dist: 1}}, {{Len: 3}}, {{Len: 3, Dist: 1, Lit: 9}}, {{Len: math.MinInt, Dist: math.MinInt}}, {{Len: 300, Dist: 40000}},
	} {
		a, e := deflate.Fixed(l)
		b, f := deflate.Dynamic(l)
		if e != api.ErrForm || f != api.ErrForm || len(a)+len(b) != 0 {
			t.Error("P12.1: refused", i, e, f)
		}
	}
	if p, e := deflate.Fixed(nil); e != api.OK || !bytes.Equal(p, []byte{3, 0}) {
		t.Error("P12.1: no tokens", p, e)
	}
}

// P12.2, P12.3: whole texts.
func TestCompress(t *testing.T) {
	for i, b := range texts() {
		before := bytes.Clone(b)
		p := deflate.Compress(b)
		if len(p) > deflate.Most(len(b)) || len(p) > len(deflate.Stored(b)) {
			t.Error("P12.3:", i, len(p))
		}
		if !bytes.Equal(told(t, p), b) || !bytes.Equal(b, before) {
			t.Error("P12.2:", i)
		}
		if !bytes.Equal(deflate.Compress(b), p) {
			t.Error("P12.1: not the same", i)
		}
	}
	if p := deflate.Compress(make([]byte, 100000)); len(p) > 300 {
		t.Error("P12.3: what could be short isn't", len(p))
	}
	r := rand.New(rand.NewSource(14))
	for range 200 {
		b := make([]byte, r.Intn(300))
		r.Read(b)
		if p := deflate.Compress(b); len(p) > deflate.Most(len(b)) || !bytes.Equal(told(t, p), b) {
			t.Error("P12.3: noise of", len(b))
		}
	}
}
