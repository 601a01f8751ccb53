package inflate_test

import (
	"bytes"
	"compress/flate"
	"io"
	"math"
	"math/rand"
	"testing"

	"drogher/api"
	"drogher/bits"
	"drogher/deflate"
	"drogher/inflate"
	"drogher/lz"
)

func noise(seed int64, n int) []byte {
	b := make([]byte, n)
	rand.New(rand.NewSource(seed)).Read(b)
	return b
}

// texts are ordinary ones, and edges.
func texts() [][]byte {
	return [][]byte{
		nil, []byte("a"), []byte("aaaaaaaa"), []byte("a rose is a rose is a rose"), noise(1, 1000), noise(2, 70000), make([]byte, 5000),
		append(append(noise(3, 32768), noise(3, 300)...), bytes.Repeat([]byte("xyz"), 90)...),
	}
}

// packs are a text packed in each way, and by another program.
func packs(b []byte) [][]byte {
	l := [][]byte{deflate.Stored(b), deflate.Compress(b)}
	for _, tries := range []int{0, 4} {
		f, _ := deflate.Fixed(lz.Find(b, tries))
		d, _ := deflate.Dynamic(lz.Find(b, tries))
		l = append(l, f, d)
	}
	for _, level := range []int{1, 6, 9, flate.HuffmanOnly} {
		var out bytes.Buffer
		w, _ := flate.NewWriter(&out, level)
		w.Write(b[:len(b)/2])
		w.Flush()
		w.Write(b[len(b)/2:])
		w.Close()
		l = append(l, out.Bytes())
	}
	return l
}

// P13.1: what is packed tells the text; every cut at the end is short; a byte more is wrong.
func TestInflate(t *testing.T) {
	for i, b := range texts() {
		for k, p := range packs(b) {
			before := bytes.Clone(p)
			for _, most := range []int{len(b), len(b) + 1, math.MaxInt} {
				if got, e := inflate.Inflate(p, most); e != api.OK || !bytes.Equal(got, b) {
					t.Fatal("P13.1:", i, k, most, e)
				}
			}
			if got, e := inflate.Inflate(p, len(b)-1); len(b) > 0 && (e != api.ErrCap || len(got) != 0) {
				t.Error("P13.1: too many", i, k, e)
			}
			if got, e := inflate.Inflate(append(bytes.Clone(p), 0), len(b)); e != api.ErrForm || len(got) != 0 {
				t.Error("P13.1: a byte more", i, k, e)
			}
			for n := 0; n < len(p); n += 1 + len(p)/50 {
				if got, e := inflate.Inflate(p[:n], len(b)); e != api.ErrShort || len(got) != 0 {
					t.Error("P13.1: short", i, k, n, e)
				}
			}
			if !bytes.Equal(p, before) {
				t.Error("P0.3: changed")
			}
		}
	}
	if b, e := inflate.Inflate([]byte{3, 0}, 0); e != api.OK || len(b) != 0 {
		t.Error("P13.1: the example", e)
	}
	if _, e := inflate.Inflate([]byte{3, 0}, math.MinInt); e != api.OK {
		t.Error("P13.1: most below 0", e)
	}
	if _, e := inflate.Inflate(nil, 9); e != api.ErrShort {
		t.Error("P13.1: nothing", e)
	}
}

// same tells off, if pieces tell another thing than the whole: at each cut, and in what is told and held.
func same(t *testing.T, r *rand.Rand, p []byte, most int) {
	t.Helper()
	whole := inflate.New(most)
	want := whole.Write(p)
	for _, longest := range []int{1, 7, 300, len(p) + 1} {
		x := inflate.New(most)
		long := 0
		e := api.OK
		for rest := p; ; {
			n := min(len(rest), 1+r.Intn(longest))
			long = max(long, n)
			e = x.Write(rest[:n])
			rest = rest[n:]
			at := len(p) - len(rest)
			if f := inflate.New(most).Write(p[:at]); e != f {
				t.Fatal("P13.2: at", at, e, f)
			}
			if len(x.Out()) > most || x.Held() > 2*most+2048+2*long || x.Held() < len(x.Out()) {
				t.Fatal("P13.3:", len(x.Out()), x.Held(), most, long)
			}
			if len(rest) == 0 || e != api.OK {
				break
			}
		}
		if e != want || !bytes.Equal(x.Out(), whole.Out()) || x.Done() != whole.Done() {
			t.Fatal("P13.2:", e, want, len(x.Out()), len(whole.Out()))
		}
		if want != api.OK && (x.Write(nil) != want || x.Write([]byte{1}) != want || x.Done()) {
			t.Fatal("P13.1: the error isn't told again")
		}
	}
}

// P13.2, P13.3: pieces of right texts, and of spoilt ones.
func TestPieces(t *testing.T) {
	r := rand.New(rand.NewSource(13))
	for i, b := range texts() {
		if len(b) > 5000 {
			b = b[:5000]
		}
		for _, p := range packs(b) {
			if len(p) > 1500 && i != 4 {
				continue
			}
			same(t, r, p, len(b))
			same(t, r, p, len(b)/2)
			for range 6 {
				q := bytes.Clone(p)
				q[r.Intn(len(q))] ^= 1 << r.Intn(8)
				same(t, r, q, len(b)+r.Intn(3))
			}
		}
	}
	for range 300 {
		same(t, r, noise(r.Int63(), r.Intn(40)), 300)
	}
	for range 300 {
		p := append([]byte{4 | byte(r.Intn(2))}, noise(r.Int63(), r.Intn(200))...)
		same(t, r, p, 300)
	}
}

// P13.1: what another program takes is taken, what it doesn't isn't.
func TestAgainstAnother(t *testing.T) {
	r := rand.New(rand.NewSource(14))
	b := append(noise(5, 200), bytes.Repeat([]byte("some words, "), 20)...)
	for _, p := range packs(b) {
		for range 400 {
			q := bytes.Clone(p)
			for range 1 + r.Intn(2) {
				q[r.Intn(len(q))] ^= 1 << r.Intn(8)
			}
			in := bytes.NewReader(q)
			want, err := io.ReadAll(io.LimitReader(flate.NewReader(in), 1<<20))
			got, e := inflate.Inflate(q, 1<<20)
			if err == nil && in.Len() == 0 && (e != api.OK || !bytes.Equal(got, want)) {
				t.Fatal("P13.1: not taken", e)
			}
			if err == nil && in.Len() > 0 && e != api.ErrForm {
				t.Fatal("P13.1: bytes left", e)
			}
			if err == io.ErrUnexpectedEOF && e != api.ErrShort && e != api.ErrDeflate || e == api.OK && err != nil {
				t.Fatal("P13.1:", err, e)
			}
		}
	}
}

// put makes bits of pairs: how many, and the number; of codes how many below 0.
func put(l ...int) []byte {
	w := bits.NewWriter()
	for i := 0; i < len(l); i += 2 {
		if l[i] < 0 {
			w.Code(uint32(l[i+1]), -l[i])
		} else {
			w.Put(uint32(l[i+1]), l[i])
		}
	}
	return w.Bytes()
}

// head is a dynamic block's begin, whose lengths of lengths are all of the 16 symbols 0 to 15, of 4 bits each, but as told.
func head(symbols, dists int) []int { return []int{1, 1, 2, 2, 5, symbols - 257, 5, dists - 1, 4, 15} }

// P13.1: what is wrong in each kind of block, and which error it is.
func TestWrong(t *testing.T) {
	lens := func(l ...int) []int { // the lengths of lengths, in their order
		var r []int
		for i := range 19 {
			x := 0
			if i < len(l) {
				x = l[i]
			}
			r = append(r, 3, x)
		}
		return r
	}
	join := func(l ...[]int) (r []int) {
		for _, x := range l {
			r = append(r, x...)
		}
		return r
	}
	two := lens(1, 0, 0, 1) // the codes 0 (symbol 0) and 1 (symbol 16)
	all := lens(0, 0, 2, 0, 0, 0, 0, 0, 0, 0, 0, 0, 0, 0, 0, 2, 0, 1)
	// 18: 2 bits, code 3 (symbol 18 is the last of the codes of 2 bits); 2: code 2; 1: code 0.
	for i, c := range []struct {
		b    []byte
		most int
		want api.Errno
	}{
		{put(1, 1, 2, 3), 9, api.ErrDeflate}, {put(1, 0, 2, 3), 9, api.ErrDeflate},
		// stored
		{[]byte{1, 1, 0, 0xfe}, 9, api.ErrShort}, {[]byte{1, 1, 0, 0xfe, 0xfe}, 9, api.ErrDeflate}, {[]byte{1, 1, 0, 0xff, 0xff}, 9, api.ErrDeflate},
		{[]byte{1, 1, 0, 0xfe, 0xff}, 9, api.ErrShort}, {[]byte{1, 1, 0, 0xfe, 0xff}, 0, api.ErrCap}, {[]byte{1, 1, 0, 0xfe, 0xfe}, 0, api.ErrDeflate},
		{[]byte{1, 1, 0, 0xfe, 0xff, 7}, 1, api.OK}, {[]byte{0xf9, 1, 0, 0xfe, 0xff, 7}, 1, api.OK}, {[]byte{1, 1, 0, 0xfe, 0xff, 7, 8}, 1, api.ErrForm},
		{[]byte{0, 0, 0, 0xff, 0xff, 3, 0}, 0, api.OK}, {[]byte{0, 0, 0, 0xff, 0xff}, 0, api.ErrShort},
		// fixed
		{put(1, 1, 2, 1, -7, 0), 0, api.OK}, {append(put(1, 1, 2, 1, -7, 0), 0), 0, api.ErrForm}, {put(1, 1, 2, 1, -7, 0, 6, 63), 0, api.OK},
		{put(1, 1, 2, 1, -8, 0x30), 0, api.ErrCap}, {put(1, 1, 2, 1, -8, 0x30, -7, 0), 1, api.OK},
		{put(1, 1, 2, 1, -8, 0b11000110), 9, api.ErrDeflate}, {put(1, 1, 2, 1, -8, 0b11000111), 9, api.ErrDeflate},
		{put(1, 1, 2, 1, -7, 1, -5, 30), 9, api.ErrDeflate}, {put(1, 1, 2, 1, -7, 1, -5, 31), 0, api.ErrDeflate},
		{put(1, 1, 2, 1, -7, 1, -5, 0), 9, api.ErrDeflate}, {put(1, 1, 2, 1, -7, 1, -5, 0), 0, api.ErrDeflate},
		{put(1, 1, 2, 1, -8, 0x30, -7, 1, -5, 1), 9, api.ErrDeflate}, {put(1, 1, 2, 1, -8, 0x30, -7, 1, -5, 1), 1, api.ErrDeflate},
		{put(1, 1, 2, 1, -8, 0x30, -7, 1, -5, 0), 3, api.ErrCap}, {put(1, 1, 2, 1, -8, 0x30, -7, 1, -5, 0, -7, 0), 4, api.OK},
		{put(1, 1, 2, 1, -8, 0x30, -7, 1)[:2], 1, api.ErrShort}, {put(1, 1, 2, 1, -8, 0x30, -7, 1, -5, 0), 4, api.ErrShort},
		// dynamic
		{put(1, 1, 2, 2, 5, 30, 5, 0), 9, api.ErrShort}, {put(1, 1, 2, 2, 5, 30, 5, 0, 4, 0), 9, api.ErrDeflate}, {put(1, 1, 2, 2, 5, 0, 5, 30, 4, 0), 9, api.ErrDeflate},
		{put(1, 1, 2, 2, 5, 31, 5, 31, 4, 15), 9, api.ErrDeflate}, {put(1, 1, 2, 2, 5, 29, 5, 29, 4, 15), 9, api.ErrShort},
		{put(join(head(257, 1), lens(1, 1, 1))...), 9, api.ErrDeflate}, {put(join(head(257, 1), lens(2))...), 9, api.ErrDeflate},
		{put(join(head(257, 1), lens())...), 9, api.ErrDeflate},
		{put(join(head(257, 1), two, []int{-1, 1})...), 9, api.ErrDeflate},
		{put(join(head(257, 1), two, []int{-1, 0, -1, 1, 2, 3, -1, 0})...), 9, api.ErrShort},
		// 256 zeros, one length 1, and no distance: just the end; a bit 1 is no code.
		{put(join(head(257, 1), all, []int{-2, 3, 7, 127, -2, 3, 7, 107, -1, 0, -2, 2, -1, 0})...), 9, api.ErrDeflate},
		{put(join(head(257, 1), all, []int{-2, 3, 7, 127, -2, 3, 7, 107, -1, 0, -1, 0, -1, 0})...), 9, api.OK},
		{put(join(head(257, 1), all, []int{-2, 3, 7, 127, -2, 3, 7, 107, -1, 0, -1, 0, -1, 1})...), 9, api.ErrDeflate},
		{put(join(head(257, 1), all, []int{-2, 3, 7, 127, -2, 3, 7, 107, -2, 2, -1, 0})...), 9, api.ErrDeflate},
		{put(join(head(257, 1), all, []int{-2, 3, 7, 127, -2, 3, 7, 110})...), 9, api.ErrDeflate},
		{put(join(head(257, 1), all, []int{-2, 3, 7, 127, -2, 3, 7, 109})...), 9, api.ErrDeflate},
	} {
		x := inflate.New(c.most)
		e := x.Write(c.b)
		_, f := inflate.Inflate(c.b, c.most)
		if f != c.want || (e != api.OK) != (c.want != api.OK && c.want != api.ErrShort) || x.Done() != (c.want == api.OK) {
			t.Error("P13.1: wrong", i, f, e, c.want)
		}
		same(t, rand.New(rand.NewSource(1)), c.b, c.most)
	}
}

// P13.1: what is told by now, in part of a stored block, and ahead of an error.
func TestOut(t *testing.T) {
	x := inflate.New(100)
	if x.Done() || len(x.Out()) != 0 || x.Held() != 0 {
		t.Error("P13.1: a new one")
	}
	p := deflate.Stored([]byte("hello"))
	for i := range p {
		if e := x.Write(p[i : i+1]); e != api.OK || len(x.Out()) != max(i-4, 0) || x.Done() != (i == len(p)-1) {
			t.Error("P13.1: byte", i, e, x.Out())
		}
	}
	if x.Write(nil) != api.OK || !x.Done() {
		t.Error("P13.1: nothing more")
	}
	if x.Write([]byte{0}) != api.ErrForm || x.Done() || string(x.Out()) != "hello" || x.Write(nil) != api.ErrForm {
		t.Error("P13.1: a byte more")
	}
	x = inflate.New(100)
	x.Write(deflate.Stored([]byte("hello"))[:4])
	if x.Held() < 4 {
		t.Error("P13.1: more is held", x.Held())
	}
	x = inflate.New(-5)
	if x.Write(put(1, 1, 2, 1, -8, 0x30)) != api.ErrCap || len(x.Out()) != 0 {
		t.Error("P13.1: most below 0")
	}
	x = inflate.New(5)
	if e := x.Write(put(1, 1, 2, 1, -8, 0x31, -7, 1, -5, 0, -7, 6, -5, 0)); e != api.ErrCap || !bytes.Equal(x.Out(), []byte{1, 1, 1, 1}) {
		t.Error("P13.1: told ahead of the error", e, x.Out())
	}
}

// P0.1, P0.3: nil, and memory.
func TestNilAndMemory(t *testing.T) {
	var none *inflate.Inflater
	if none.Write(nil) != api.ErrArg || none.Done() || len(none.Out()) != 0 || none.Held() != 0 {
		t.Error("P13.1: nil")
	}
	p := deflate.Stored([]byte("hello"))
	x := inflate.New(9)
	a, b := bytes.Clone(p[:3]), bytes.Clone(p[3:])
	x.Write(a)
	clear(a)
	x.Write(b)
	clear(b)
	clear(x.Out())
	if string(x.Out()) != "hello" {
		t.Error("P0.3:", x.Out())
	}
}
