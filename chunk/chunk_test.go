package chunk_test

import (
	"bytes"
	"math"
	"math/rand"
	"testing"

	"drogher/api"
	"drogher/chunk"
	"drogher/deflate"
	"drogher/delta"
	"drogher/inflate"
	"drogher/merkle"
	"drogher/parcel"
	"drogher/plan"
)

// P26.1: sizes of blocks.
func TestSize(t *testing.T) {
	m := api.Manifest{Mode: api.ModeAB, Block: 128, NewLen: 300}
	whole := api.Manifest{Mode: api.ModeFull, Block: 128, NewLen: 256}
	for i, c := range []struct {
		m           api.Manifest
		block, want int
	}{
		{m, 2, 44}, {m, 0, 128}, {m, 1, 128}, {m, 3, 0}, {m, -1, 0}, {m, math.MinInt, 0}, {m, math.MaxInt, 0}, {whole, 1, 128}, {whole, 2, 0},
		{api.Manifest{}, 0, 0}, {api.Manifest{Mode: api.ModePlace, Block: 128, NewLen: 300}, 0, 0}, {api.Manifest{Mode: api.ModePlace, Block: 128, NewLen: 300, Order: []int{2, 1, 0}}, 2, 44},
		{api.Manifest{Mode: api.ModeAB, Block: 128}, 0, 0},
	} {
		if got := chunk.Size(c.m, c.block); got != c.want {
			t.Error("P26.1: size", i, got)
		}
	}
}

// P26.1: packing.
func TestPack(t *testing.T) {
	for i, l := range [][]api.Step{nil, {{Kind: api.Copy, From: 5, Len: 128}}, {{Kind: api.Lit, Len: 3, Data: []byte("abc")}, {Kind: api.Add, Len: 1, Data: []byte{1}}}} {
		b, e := chunk.Pack(l)
		want, _ := plan.Put(l)
		if got, f := inflate.Inflate(b, 9999); e != api.OK || f != api.OK || !bytes.Equal(got, want) {
			t.Error("P26.1: pack", i, e, f)
		}
	}
	if b, e := chunk.Pack([]api.Step{{Kind: api.Lit, Len: 3}}); e != api.ErrForm || len(b) != 0 {
		t.Error("P26.1: pack of what isn't right", e)
	}
}

// pack makes a package's chunks of what is packed in each; rows come in the manifest's order.
func pack(m *api.Manifest, pays ...[]byte) []api.Chunk {
	var l []api.Chunk
	var leaves []api.Digest
	for k, pay := range pays {
		c := api.Chunk{Block: k, Pay: pay}
		if m.Mode == api.ModePlace {
			c.Block = m.Order[k]
		}
		l = append(l, c)
		leaves = append(leaves, merkle.Leaf(parcel.Row(c)))
	}
	m.Root = merkle.Root(leaves)
	for k := range l {
		l[k].Way, _ = merkle.Way(leaves, k)
	}
	return l
}

// P26.2: a package's chunks, opened.
func TestOpen(t *testing.T) {
	r := rand.New(rand.NewSource(26))
	for _, mode := range []uint8{api.ModeAB, api.ModePlace, api.ModeFull} {
		for range 20 {
			old, new := make([]byte, 700), make([]byte, r.Intn(900))
			r.Read(old)
			copy(new, old[:r.Intn(300)])
			m := api.Manifest{Mode: mode, Block: 128, NewLen: len(new)}
			n := delta.Blocks(len(new), 128)
			if mode == api.ModePlace {
				m.Order = r.Perm(n)
			}
			plans, _ := delta.Plans(old, new, 128)
			var pays [][]byte
			for k := range n {
				if mode == api.ModePlace {
					k = m.Order[k]
				}
				p, _ := chunk.Pack(plans[k])
				pays = append(pays, p)
			}
			for k, c := range pack(&m, pays...) {
				want := delta.Block(new, 128, c.Block)
				if b, e := chunk.Open(m, k, c, plan.Bytes(old)); e != api.OK || !bytes.Equal(b, want) {
					t.Fatal("P26.2:", mode, k, e)
				}
			}
		}
	}
}

func pay(l ...api.Step) []byte {
	b, _ := chunk.Pack(l)
	return b
}

func lit(n int) api.Step {
	d := make([]byte, n)
	rand.New(rand.NewSource(1)).Read(d)
	return api.Step{Kind: api.Lit, Len: n, Data: d}
}

func cp(from, n int) api.Step { return api.Step{Kind: api.Copy, From: from, Len: n} }

// odd is a source that answers an error.
type odd struct{ e api.Errno }

func (o odd) Range(from, n int) ([]byte, api.Errno) { return nil, o.e }

// P26.1: which error goes ahead.
func TestErrors(t *testing.T) {
	m := api.Manifest{Mode: api.ModePlace, Block: 128, NewLen: 300, Order: []int{2, 0, 1}}
	l := pack(&m, pay(lit(44)), pay(cp(0, 128)), pay(lit(100), cp(5, 28)))
	old := plan.Bytes(make([]byte, 200))
	for k, c := range l {
		if b, e := chunk.Open(m, k, c, old); e != api.OK || len(b) != chunk.Size(m, c.Block) {
			t.Fatal("P26.1: open", k, e)
		}
	}
	bad := m
	bad.Order = []int{2, 0, 0}
	long := l[0]
	long.Pay = make([]byte, 146)
	same := l[0]
	same.Pay = append(bytes.Clone(same.Pay), make([]byte, 145-len(same.Pay))...)
	way := l[0]
	way.Way = append([]api.Digest{{1}}, way.Way[1:]...)
	few, many := l[0], l[0]
	few.Way = few.Way[1:]
	many.Way = append([]api.Digest{{}}, many.Way...)
	for i, c := range []struct {
		m    api.Manifest
		k    int
		c    api.Chunk
		s    plan.Source
		want api.Errno
	}{
		{bad, -1, api.Chunk{}, nil, api.ErrForm}, {api.Manifest{}, 0, l[0], old, api.ErrForm}, {m, -1, api.Chunk{}, old, api.ErrRange}, {m, 3, api.Chunk{}, old, api.ErrRange}, {m, math.MaxInt, l[0], old, api.ErrRange}, {m, math.MinInt, l[0], old, api.ErrRange},
		{m, 0, l[1], old, api.ErrOrder}, {m, 1, l[0], old, api.ErrOrder}, {m, 0, api.Chunk{Block: math.MinInt, Pay: long.Pay}, old, api.ErrOrder}, {m, 0, api.Chunk{Block: 2 + 1<<32, Way: l[0].Way, Pay: l[0].Pay}, old, api.ErrOrder},
		{m, 0, long, old, api.ErrCap}, {m, 0, same, old, api.ErrHash}, {m, 0, way, old, api.ErrHash}, {m, 0, few, old, api.ErrHash}, {m, 0, many, old, api.ErrHash}, {m, 0, api.Chunk{Block: 2}, old, api.ErrHash},
		{m, 1, l[1], nil, api.ErrRange}, {m, 0, l[0], nil, api.OK}, {m, 1, l[1], odd{api.ErrUnread}, api.ErrUnread}, {m, 1, l[1], odd{api.OK}, api.ErrRange}, {m, 1, l[1], plan.Bytes(nil), api.ErrRange},
	} {
		b, e := chunk.Open(c.m, c.k, c.c, c.s)
		if e != c.want || e != api.OK && len(b) != 0 {
			t.Error("P26.1: open", i, e, c.want)
		}
	}
}

// P26.1: what is packed in a chunk that has its way, and may be anything.
func TestPays(t *testing.T) {
	raw := func(b ...byte) []byte { return deflate.Compress(b) }
	for i, c := range []struct {
		pay  []byte
		want api.Errno
	}{
		{nil, api.ErrDeflate}, {[]byte{7}, api.ErrDeflate}, {append(pay(lit(44)), 0), api.ErrDeflate}, {pay(lit(44))[:20], api.ErrDeflate}, {make([]byte, 146), api.ErrCap}, {make([]byte, 145), api.ErrDeflate},
		{deflate.Compress(make([]byte, 141)), api.ErrCap}, {deflate.Compress(make([]byte, 140)), api.ErrPlan}, {deflate.Compress(nil), api.ErrPlan}, {raw(9), api.ErrPlan}, {raw(1), api.ErrPlan}, {raw(1, 200, 0, 0), api.ErrPlan},
		{pay(lit(43)), api.ErrPlan}, {pay(lit(45)), api.ErrPlan}, {pay(lit(44), cp(0, 1)), api.ErrPlan}, {pay(cp(999, 45)), api.ErrPlan}, {pay(cp(999, 44)), api.ErrRange}, {pay(lit(44)), api.OK},
		{deflate.Stored([]byte{2, 44, 0}), api.OK},
	} {
		m := api.Manifest{Mode: api.ModeAB, Block: 128, NewLen: 44}
		l := pack(&m, c.pay)
		if b, e := chunk.Open(m, 0, l[0], plan.Bytes(make([]byte, 50))); e != c.want || (len(b) != 0) != (e == api.OK) {
			t.Error("P26.1: pay", i, e, c.want)
		}
	}
}

// P26.3: no other chunk is opened in place of one.
func TestOther(t *testing.T) {
	m := api.Manifest{Mode: api.ModeAB, Block: 128, NewLen: 128 * 5}
	pays := [][]byte{pay(lit(128)), pay(cp(0, 128)), pay(cp(1, 128)), pay(cp(2, 128)), pay(cp(3, 128))}
	l := pack(&m, pays...)
	old := plan.Bytes(make([]byte, 300))
	r := rand.New(rand.NewSource(27))
	for k, right := range l {
		for range 200 {
			c := right
			c.Pay = bytes.Clone(c.Pay)
			c.Way = append([]api.Digest(nil), c.Way...)
			switch r.Intn(3) {
			case 0:
				c.Pay[r.Intn(len(c.Pay))] ^= 1 << r.Intn(8)
			case 1:
				c.Way[r.Intn(len(c.Way))][r.Intn(32)] ^= 1 << r.Intn(8)
			case 2:
				o := l[(k+1+r.Intn(4))%5]
				c.Pay, c.Way = o.Pay, o.Way
			}
			if b, e := chunk.Open(m, k, c, old); e != api.ErrHash || len(b) != 0 {
				t.Fatal("P26.3:", k, e)
			}
		}
	}
}
