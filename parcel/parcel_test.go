package parcel_test

import (
	"bytes"
	"encoding/binary"
	"math"
	"math/rand"
	"reflect"
	"testing"

	"drogher/api"
	"drogher/manifest"
	"drogher/merkle"
	"drogher/parcel"
)

// P23.1: caps, rows, writings.
func TestPut(t *testing.T) {
	for _, c := range [][2]int{{128, 145}, {4096, 4113}, {127, 0}, {4097, 0}, {0, 0}, {-1, 0}, {math.MaxInt, 0}, {math.MinInt, 0}} {
		if got := parcel.PayCap(c[0]); got != c[1] {
			t.Error("P23.1: cap", c, got)
		}
	}
	for _, c := range []struct {
		block int
		want  []byte
	}{{0, []byte{0, 0, 0, 0, 9}}, {0x01020304, []byte{1, 2, 3, 4, 9}}, {-1, []byte{255, 255, 255, 255, 9}}, {1<<40 + 5, []byte{0, 0, 0, 5, 9}}, {math.MinInt, []byte{0, 0, 0, 0, 9}}} {
		if got := parcel.Row(api.Chunk{Block: c.block, Pay: []byte{9}}); !bytes.Equal(got, c.want) {
			t.Error("P23.1: row", c.block, got)
		}
	}
	for i, c := range []struct {
		c    api.Chunk
		want api.Errno
	}{
		{api.Chunk{}, api.OK}, {api.Chunk{Block: 4095, Way: make([]api.Digest, 255), Pay: make([]byte, 65535)}, api.OK}, {api.Chunk{Block: 258, Way: []api.Digest{{1}, {2}}, Pay: []byte{3, 4, 5}}, api.OK},
		{api.Chunk{Block: -1}, api.ErrForm}, {api.Chunk{Block: 4096}, api.ErrForm}, {api.Chunk{Way: make([]api.Digest, 256)}, api.ErrForm}, {api.Chunk{Pay: make([]byte, 65536)}, api.ErrForm},
		{api.Chunk{Block: math.MaxInt}, api.ErrForm}, {api.Chunk{Block: math.MinInt}, api.ErrForm},
	} {
		b, e := parcel.Put(c.c)
		var want []byte
		if c.want == api.OK {
			want = binary.BigEndian.AppendUint32(want, uint32(c.c.Block))
			want = binary.BigEndian.AppendUint32(want, uint32(len(c.c.Pay)))
			want = append(want, byte(len(c.c.Way)))
			for _, d := range c.c.Way {
				want = append(want, d[:]...)
			}
			want = append(want, c.c.Pay...)
		}
		if e != c.want || !bytes.Equal(b, want) {
			t.Error("P23.1: put", i, e)
		}
		w, f := parcel.Whole([]byte("head"), []api.Chunk{{}, c.c})
		if f != c.want || f == api.OK && !bytes.Equal(w, append([]byte("head\x00\x00\x00\x00\x00\x00\x00\x00\x00"), want...)) || f != api.OK && len(w) != 0 {
			t.Error("P23.1: whole", i, f)
		}
	}
	if w, e := parcel.Whole(nil, nil); e != api.OK || len(w) != 0 {
		t.Error("P23.1: whole of nothing", e)
	}
}

// given is a package, and what it is made of.
type given struct {
	m      api.Manifest
	sig    []byte
	header []byte
	chunks []api.Chunk
	all    []byte
}

// give makes a package by chance, of so many blocks.
func give(t *testing.T, r *rand.Rand, mode uint8, blocks int) given {
	g := given{m: api.Manifest{Mode: mode, Version: r.Uint64(), Block: 128, NewLen: 128*blocks - min(blocks, 1)*r.Intn(128), New: api.Digest{5}}, sig: make([]byte, r.Intn(300))}
	if mode == api.ModePlace {
		g.m.Order = r.Perm(blocks)
	}
	r.Read(g.sig)
	for k := range blocks {
		c := api.Chunk{Block: manifest.At(g.m, k), Way: make([]api.Digest, merkle.Steps(k, blocks)), Pay: make([]byte, r.Intn(146))}
		for i := range c.Way {
			r.Read(c.Way[i][:])
		}
		r.Read(c.Pay)
		g.chunks = append(g.chunks, c)
	}
	var e api.Errno
	if g.header, e = manifest.Header(g.m, g.sig); e != api.OK {
		t.Fatal(e)
	}
	if g.all, e = parcel.Whole(g.header, g.chunks); e != api.OK {
		t.Fatal(e)
	}
	return g
}

// sameChunk tells whether both are the same, a nil list as an empty one.
func sameChunk(a, b api.Chunk) bool {
	x, _ := parcel.Put(a)
	y, _ := parcel.Put(b)
	return bytes.Equal(x, y)
}

// event is what was met: a thing, or an error, behind so many bytes.
type event struct {
	at  int
	e   api.Errno
	row string
}

// read feeds bytes in pieces, and tells what is met.
func read(t *testing.T, all []byte, size func() int) []event {
	p := parcel.New()
	var l []event
	limit := 1<<17 + 3*145 + 32768
	at := 0
	piece := all[:0]
	for {
		n, e := p.Feed(piece)
		if n < 0 || n > len(piece) || e != api.OK && n != 0 {
			t.Fatal("P23.1: feed", n, e)
		}
		if p.Held() > limit {
			t.Fatal("P23.3:", p.Held())
		}
		at += n
		piece = piece[n:]
		if e != api.OK {
			if m, f := p.Feed(nil); m != 0 || f != e || p.Ready() {
				t.Fatal("P23.1: the error isn't told again")
			}
			return append(l, event{-1, e, ""})
		}
		if p.Ready() {
			row := ""
			if len(l) == 0 {
				_, w, s := p.Header()
				row = string(w) + "|" + string(s)
			} else {
				b, _ := parcel.Put(p.Chunk())
				row = string(b)
			}
			l = append(l, event{at, e, row})
			if m, f := p.Feed([]byte{1}); m != 0 || f != api.OK {
				t.Fatal("P23.1: takes while a thing is ready", m, f)
			}
			p.Next()
			continue
		}
		if len(piece) == 0 {
			if at == len(all) {
				return l
			}
			piece = all[at:min(len(all), at+size())]
		}
	}
}

// P23.1, P23.2: right packages, in any pieces.
func TestRight(t *testing.T) {
	r := rand.New(rand.NewSource(23))
	for _, mode := range []uint8{api.ModeAB, api.ModePlace, api.ModeFull} {
		for blocks := range 9 {
			g := give(t, r, mode, blocks)
			p := parcel.New()
			if m, w, s := p.Header(); !reflect.DeepEqual(m, api.Manifest{}) || len(w)+len(s) != 0 || p.Ready() || p.Done() || p.Held() != 0 {
				t.Error("P23.1: a new one")
			}
			n, e := p.Feed(g.all)
			w, _ := manifest.Put(g.m)
			for range 2 {
				m, b, s := p.Header()
				if e != api.OK || n != len(g.header) || !p.Ready() || !reflect.DeepEqual(m.Order, g.m.Order) && len(g.m.Order) > 0 || m.New != g.m.New || !bytes.Equal(b, w) || !bytes.Equal(s, g.sig) || p.Done() {
					t.Fatal("P23.1: header", n, e)
				}
				if !sameChunk(p.Chunk(), api.Chunk{}) {
					t.Error("P23.1: a chunk while the header is ready")
				}
				clear(b)
				clear(s)
				clear(m.Order)
			}
			p.Next()
			rest := g.all[n:]
			for k, c := range g.chunks {
				if p.Done() || p.Ready() || !sameChunk(p.Chunk(), api.Chunk{}) {
					t.Fatal("P23.1: done ahead of", k)
				}
				n, e := p.Feed(rest)
				rest = rest[n:]
				if e != api.OK || !p.Ready() || !sameChunk(p.Chunk(), c) || p.Done() {
					t.Fatal("P23.1: chunk", k, e)
				}
				got := p.Chunk()
				clear(got.Way)
				clear(got.Pay)
				if !sameChunk(p.Chunk(), c) {
					t.Fatal("P0.3: shared")
				}
				p.Next()
				p.Next()
			}
			if m, _, s := p.Header(); !p.Done() || len(rest) != 0 || m.New != g.m.New || !bytes.Equal(s, g.sig) {
				t.Error("P23.1: not done")
			}
			if n, e := p.Feed(nil); n != 0 || e != api.OK {
				t.Error("P23.1: nothing more", e)
			}
			if n, e := p.Feed([]byte{0}); n != 0 || e != api.ErrForm || !p.Done() {
				t.Error("P23.1: a byte more", e)
			}
			whole := read(t, g.all, func() int { return len(g.all) })
			for _, size := range []int{1, 2, 9, 100} {
				if got := read(t, g.all, func() int { return 1 + r.Intn(size) }); !reflect.DeepEqual(got, whole) {
					t.Fatal("P23.2:", mode, blocks, size)
				}
			}
			if len(whole) != blocks+1 {
				t.Fatal("P23.2: how many things", len(whole))
			}
		}
	}
}

// P23.2: spoilt packages, in any pieces.
func TestSpoilt(t *testing.T) {
	r := rand.New(rand.NewSource(24))
	told := map[api.Errno]int{}
	for range 1500 {
		g := give(t, r, []uint8{api.ModeAB, api.ModePlace}[r.Intn(2)], r.Intn(5))
		b := bytes.Clone(g.all)
		for range 1 + r.Intn(2) {
			b[r.Intn(len(b))] ^= 1 << r.Intn(8)
		}
		if r.Intn(3) == 0 {
			b[r.Intn(14)]++
		}
		b = append(b, make([]byte, r.Intn(2))...)
		whole := read(t, b, func() int { return len(b) })
		for _, x := range whole {
			told[x.e]++
		}
		for _, size := range []int{1, 7, 60} {
			if got := read(t, b, func() int { return 1 + r.Intn(size) }); !reflect.DeepEqual(got, whole) {
				t.Fatal("P23.2:", got, whole)
			}
		}
	}
	for _, e := range []api.Errno{api.OK, api.ErrForm, api.ErrLong, api.ErrOrder, api.ErrCap} {
		if told[e] == 0 {
			t.Error("P23.2: never told", e)
		}
	}
}

// P23.1: each error, with the byte with which it is told.
func TestErrors(t *testing.T) {
	r := rand.New(rand.NewSource(25))
	g := give(t, r, api.ModePlace, 3)
	w, _ := manifest.Put(g.m)
	set := func(at int, x ...byte) []byte {
		b := bytes.Clone(g.all)
		copy(b[at:], x)
		return b
	}
	four := func(n int) []byte { return binary.BigEndian.AppendUint32(nil, uint32(n)) }
	sig := 8 + len(w)
	first := len(g.header)
	for i, c := range []struct {
		b    []byte
		at   int
		want api.Errno
	}{
		{set(0, 'X'), 4, api.ErrForm}, {set(3, 'X'), 4, api.ErrForm}, {set(0, []byte("drgh")...), 4, api.ErrForm},
		{set(4, four(117)...), 8, api.ErrForm}, {set(4, four(118+8193)...), 8, api.ErrForm}, {set(4, four(0)...), 8, api.ErrForm}, {set(4, 255, 255, 255, 255), 8, api.ErrForm},
		{set(8, 2), sig, api.ErrForm}, {set(9, 1), sig, api.ErrForm}, {set(sig-1, 9), sig, api.ErrForm}, {set(4, four(118)...), 8 + 118, api.ErrForm},
		{set(sig, four(1<<17-12-len(w)+1)...), sig + 4, api.ErrLong}, {set(sig, 255, 255, 255, 255), sig + 4, api.ErrLong},
		{set(first, four(g.m.Order[1])...), first + 4, api.ErrOrder}, {set(first, 1), first + 4, api.ErrOrder}, {set(first, four(3)...), first + 4, api.ErrOrder},
		{set(first+4, four(146)...), first + 8, api.ErrCap}, {set(first+4, 255), first + 8, api.ErrCap}, {set(first+8, 1), first + 9, api.ErrForm}, {set(first+8, 3), first + 9, api.ErrForm}, {set(first+8, 255), first + 9, api.ErrForm},
		{append(bytes.Clone(g.all), 0), len(g.all) + 1, api.ErrForm},
	} {
		p := parcel.New()
		for k := range c.b {
			n, e := p.Feed(c.b[k : k+1])
			if k+1 < c.at && (n != 1 || e != api.OK) || k+1 == c.at && (n != 0 || e != c.want) {
				t.Error("P23.1: error", i, "at byte", k, n, e)
			}
			if e != api.OK {
				break
			}
			p.Next()
		}
		if _, e := p.Feed(nil); e != c.want {
			t.Error("P23.1: error", i, e)
		}
		if e := p.Skip(0); e != api.ErrState && c.at <= len(g.all) {
			t.Error("P23.1: skip behind an error", i, e)
		}
	}
	// What is held of a header that comes.
	p := parcel.New()
	for k := range g.header {
		if p.Feed(g.header[k : k+1]); p.Held() < k+1 {
			t.Fatal("P23.1: more is held", k, p.Held())
		}
	}
	// The longest signature that there may be, and the most that is held.
	big := api.Manifest{Mode: api.ModePlace, Block: 128, NewLen: 4096 * 128, Order: r.Perm(4096)}
	h, e := manifest.Header(big, make([]byte, 1<<17-12-118-8192))
	c := api.Chunk{Block: big.Order[0], Way: make([]api.Digest, 12), Pay: make([]byte, 145)}
	all, f := parcel.Whole(h, []api.Chunk{c})
	if e != api.OK || f != api.OK || len(h) != 1<<17 {
		t.Fatal(e, f)
	}
	if l := read(t, all, func() int { return 1000 }); len(l) != 2 || l[1].e != api.OK {
		t.Error("P23.3: the longest header", len(l))
	}
}

// P23.1: a chunk that is gone on with.
func TestSkip(t *testing.T) {
	g := give(t, rand.New(rand.NewSource(26)), api.ModePlace, 5)
	p := parcel.New()
	state := func(what string) {
		t.Helper()
		for _, k := range []int{0, 1, -1, 9, math.MaxInt} {
			if e := p.Skip(k); e != api.ErrState {
				t.Error("P23.1: skip", what, k, e)
			}
		}
	}
	state("ahead of all")
	p.Feed(g.header)
	state("while the header is ready")
	p.Next()
	for _, k := range []int{-1, 6, math.MinInt, math.MaxInt} {
		if e := p.Skip(k); e != api.ErrArg {
			t.Error("P23.1: skip", k, e)
		}
	}
	if p.Skip(0) != api.OK || p.Skip(2) != api.OK || p.Skip(1) != api.ErrArg {
		t.Error("P23.1: skip")
	}
	if n, e := p.Feed(nil); n != 0 || e != api.OK || p.Skip(2) != api.OK {
		t.Error("P23.1: nothing was taken", n, e)
	}
	b, _ := parcel.Put(g.chunks[2])
	p.Feed(b[:1])
	state("within a chunk")
	p.Feed(b[1:])
	state("while a chunk is ready")
	if !sameChunk(p.Chunk(), g.chunks[2]) {
		t.Error("P23.1: the chunk that was skipped to")
	}
	p.Next()
	if p.Skip(2) != api.ErrArg || p.Skip(5) != api.OK || !p.Done() || p.Skip(4) != api.ErrArg || p.Skip(5) != api.OK {
		t.Error("P23.1: skip to the end")
	}
	if _, e := p.Feed([]byte{1}); e != api.ErrForm {
		t.Error("P23.1: behind the end", e)
	}
}

// P0.1, P0.3: nil, and memory.
func TestNilAndMemory(t *testing.T) {
	var p *parcel.Parser
	n, e := p.Feed([]byte{1})
	_, w, s := p.Header()
	p.Next()
	if n != 0 || e != api.ErrArg || len(w)+len(s) != 0 || p.Ready() || p.Done() || p.Held() != 0 || p.Skip(0) != api.ErrArg || len(p.Chunk().Pay) != 0 {
		t.Error("P23.1: nil")
	}
	g := give(t, rand.New(rand.NewSource(27)), api.ModeAB, 2)
	b := bytes.Clone(g.all)
	p = parcel.New()
	n, _ = p.Feed(b)
	p.Next()
	m, _ := p.Feed(b[n:])
	clear(b)
	_, w, _ = p.Header()
	if want, _ := manifest.Put(g.m); !bytes.Equal(w, want) || !sameChunk(p.Chunk(), g.chunks[0]) {
		t.Error("P0.3: kept")
	}
	if p.Held() < len(g.header)+len(g.chunks[0].Pay)+32 {
		t.Error("P23.1: more is held", p.Held())
	}
	first := p.Chunk()
	p.Next()
	p.Feed(g.all[n+m:])
	if !sameChunk(first, g.chunks[0]) || !sameChunk(p.Chunk(), g.chunks[1]) {
		t.Error("P0.3: an answer changed")
	}
	c := api.Chunk{Pay: make([]byte, 1, 9)}
	row := parcel.Row(c)
	row[4] = 7
	if c.Pay[0] != 0 {
		t.Error("P0.3: shared")
	}
}
