package manifest_test

import (
	"bytes"
	"encoding/binary"
	"math"
	"math/rand"
	"reflect"
	"slices"
	"testing"

	"drogher/api"
	"drogher/manifest"
)

func ab() api.Manifest {
	return api.Manifest{Mode: api.ModeAB, Version: 7, Block: 128, OldLen: 1000, NewLen: 300, Old: api.Digest{1}, New: api.Digest{2}, Root: api.Digest{3}}
}

func place() api.Manifest {
	m := ab()
	m.Mode, m.Order = api.ModePlace, []int{2, 0, 1}
	return m
}

func full() api.Manifest {
	m := ab()
	m.Mode, m.OldLen, m.Old = api.ModeFull, 0, api.Digest{}
	return m
}

// with is a manifest with something changed.
func with(m api.Manifest, f func(*api.Manifest)) api.Manifest {
	m.Order = slices.Clone(m.Order)
	f(&m)
	return m
}

// may are manifests that may be; mayNot others.
func may() []api.Manifest {
	return []api.Manifest{
		ab(), place(), full(),
		with(ab(), func(m *api.Manifest) { m.Order = []int{} }), with(ab(), func(m *api.Manifest) { m.NewLen = 0 }), with(place(), func(m *api.Manifest) { m.NewLen, m.Order = 0, nil }),
		with(ab(), func(m *api.Manifest) { m.NewLen = 4096 * 128 }), with(ab(), func(m *api.Manifest) { m.OldLen = math.MaxInt32 }), with(ab(), func(m *api.Manifest) { m.Block, m.NewLen = 4096, 1<<24 }),
		with(place(), func(m *api.Manifest) { m.NewLen, m.Order = 4096*128, rand.New(rand.NewSource(22)).Perm(4096) }), with(ab(), func(m *api.Manifest) { m.Version = math.MaxUint64 }),
	}
}

func mayNot() []api.Manifest {
	var l []api.Manifest
	change := func(m api.Manifest, f func(*api.Manifest)) { l = append(l, with(m, f)) }
	l = append(l, api.Manifest{})
	for _, mode := range []uint8{0, 4, 255} {
		change(ab(), func(m *api.Manifest) { m.Mode = mode })
	}
	for _, n := range []int{127, 4097, 0, -1, math.MinInt, math.MaxInt} {
		change(ab(), func(m *api.Manifest) { m.Block = n })
	}
	for _, n := range []int{-1, 1 << 31, math.MinInt, math.MaxInt} {
		change(ab(), func(m *api.Manifest) { m.OldLen = n })
		change(ab(), func(m *api.Manifest) { m.NewLen = n })
	}
	change(ab(), func(m *api.Manifest) { m.NewLen = 4096*128 + 1 })
	change(ab(), func(m *api.Manifest) { m.Order = []int{0, 1, 2} })
	change(full(), func(m *api.Manifest) { m.Order = []int{0, 1, 2} })
	change(full(), func(m *api.Manifest) { m.OldLen = 1 })
	change(full(), func(m *api.Manifest) { m.Old[31] = 1 })
	for _, o := range [][]int{nil, {0, 1}, {0, 1, 1}, {0, 1, 3}, {-1, 0, 1}, {0, 1, 2, 3}, {0, 1, math.MaxInt}, {0, 1, math.MinInt}} {
		change(place(), func(m *api.Manifest) { m.Order = o })
	}
	return l
}

// writing is a manifest's writing, by the words of the chapter.
func writing(m api.Manifest) []byte {
	var b bytes.Buffer
	for _, x := range []any{byte(1), m.Mode, m.Version, uint32(m.Block), uint32(m.OldLen), uint32(m.NewLen), m.Old, m.New, m.Root} {
		binary.Write(&b, binary.BigEndian, x)
	}
	for _, i := range m.Order {
		binary.Write(&b, binary.BigEndian, uint16(i))
	}
	return b.Bytes()
}

// P22.1, P22.2: those that may be.
func TestMay(t *testing.T) {
	for i, m := range may() {
		b, e := manifest.Put(m)
		if !manifest.May(m) || e != api.OK || !bytes.Equal(b, writing(m)) {
			t.Fatal("P22.1: put", i, e)
		}
		got, e := manifest.Get(b)
		if len(m.Order) == 0 {
			m.Order = nil
		}
		if e != api.OK || !reflect.DeepEqual(got, m) {
			t.Error("P22.2:", i, e)
		}
		n := (m.NewLen + m.Block - 1) / m.Block
		if manifest.Blocks(m) != n {
			t.Error("P22.1: blocks", i)
		}
		for _, k := range []int{0, 1, 2, n - 1, n, -1, math.MinInt, math.MaxInt} {
			want := k
			if k < 0 || k >= n {
				want = -1
			} else if m.Mode == api.ModePlace {
				want = m.Order[k]
			}
			if got := manifest.At(m, k); got != want {
				t.Error("P22.1: at", i, k, got)
			}
		}
	}
	if b, _ := manifest.Put(with(ab(), func(m *api.Manifest) { m.NewLen = 0 })); len(b) != 118 {
		t.Error("P22.1: the example", len(b))
	}
}

// P22.1: those that may not be.
func TestMayNot(t *testing.T) {
	for i, m := range mayNot() {
		b, e := manifest.Put(m)
		h, f := manifest.Header(m, make([]byte, 1<<18))
		if manifest.May(m) || e != api.ErrForm || f != api.ErrForm || len(b)+len(h) != 0 || manifest.Blocks(m) != 0 || manifest.At(m, 0) != -1 {
			t.Error("P22.1: may not be", i, e, f)
		}
	}
}

// P22.1: writings that aren't one, or tell what may not be.
func TestGetErrors(t *testing.T) {
	b, _ := manifest.Put(ab())
	p, _ := manifest.Put(place())
	f, _ := manifest.Put(full())
	turn := func(b []byte, at int, x byte) []byte {
		c := bytes.Clone(b)
		c[at] = x
		return c
	}
	for i, c := range []struct {
		b    []byte
		want api.Errno
	}{
		{nil, api.ErrShort}, {b[:117], api.ErrShort}, {turn(b, 0, 9)[:117], api.ErrShort}, {p[:117], api.ErrShort},
		{turn(b, 0, 0), api.ErrForm}, {turn(b, 0, 2), api.ErrForm}, {turn(b, 1, 0), api.ErrForm}, {turn(b, 1, 4), api.ErrForm}, {turn(b, 1, 2), api.ErrForm}, {turn(p, 1, 1), api.ErrForm},
		{turn(b, 1, 3), api.ErrForm}, {append(bytes.Clone(b), 0), api.ErrForm}, {append(bytes.Clone(b), 0, 0), api.ErrForm}, {p[:118], api.ErrForm}, {p[:len(p)-1], api.ErrForm}, {p[:len(p)-2], api.ErrForm},
		{append(bytes.Clone(p), 0), api.ErrForm}, {append(bytes.Clone(p), 0, 3), api.ErrForm}, {append(bytes.Clone(p), make([]byte, 20000)...), api.ErrForm}, {turn(p, 119, 0), api.ErrForm}, {turn(p, 119, 3), api.ErrForm}, {turn(p, 118, 1), api.ErrForm},
		{turn(b, 10, 255), api.ErrForm}, {turn(b, 14, 128), api.ErrForm}, {turn(b, 18, 128), api.ErrForm}, {turn(b, 18, 1), api.ErrForm}, {turn(f, 22, 1), api.ErrForm}, {turn(f, 17, 1), api.ErrForm},
		{b, api.OK}, {p, api.OK}, {f, api.OK}, {turn(b, 2, 255), api.OK},
	} {
		if m, e := manifest.Get(c.b); e != c.want || e != api.OK && !reflect.DeepEqual(m, api.Manifest{}) {
			t.Error("P22.1: get", i, e, c.want)
		}
	}
}

// P22.2: what is got of any bytes is put as it stood.
func TestAsItStood(t *testing.T) {
	r := rand.New(rand.NewSource(23))
	got := 0
	for range 20000 {
		m := may()[r.Intn(8)]
		b, _ := manifest.Put(m)
		for range r.Intn(3) {
			b[r.Intn(len(b))] ^= 1 << r.Intn(8)
		}
		if m, e := manifest.Get(b); e == api.OK {
			got++
			if back, f := manifest.Put(m); f != api.OK || !bytes.Equal(back, b) {
				t.Fatal("P22.2:", m, f)
			}
		}
	}
	if got < 1000 {
		t.Error("P22.2: too few tried", got)
	}
}

// P22.1: headers.
func TestHeader(t *testing.T) {
	for _, m := range []api.Manifest{ab(), place()} {
		w, _ := manifest.Put(m)
		for _, n := range []int{0, 5, 1<<17 - 12 - len(w)} {
			sig := bytes.Repeat([]byte{9}, n)
			want := append(binary.BigEndian.AppendUint32([]byte("DRGH"), uint32(len(w))), w...)
			want = append(binary.BigEndian.AppendUint32(want, uint32(n)), sig...)
			if h, e := manifest.Header(m, sig); e != api.OK || !bytes.Equal(h, want) {
				t.Error("P22.1: header", n, e)
			}
		}
		if h, e := manifest.Header(m, make([]byte, 1<<17-11-len(w))); e != api.ErrLong || len(h) != 0 {
			t.Error("P22.1: too long a header", e)
		}
	}
}

// P0.3: nothing is kept or changed.
func TestMemory(t *testing.T) {
	m := place()
	b, _ := manifest.Put(m)
	got, _ := manifest.Get(b)
	clear(b)
	if !reflect.DeepEqual(got, m) {
		t.Error("P0.3: kept")
	}
	clear(got.Order)
	if !slices.Equal(m.Order, []int{2, 0, 1}) {
		t.Error("P0.3: changed")
	}
}
