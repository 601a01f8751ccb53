package build_test

import (
	"bytes"
	"math"
	"math/rand"
	"testing"

	"drogher/api"
	"drogher/applier"
	"drogher/build"
	"drogher/delta"
	"drogher/hss"
	"drogher/inflate"
	"drogher/manifest"
	"drogher/merkle"
	"drogher/parcel"
	"drogher/part"
	"drogher/plan"
	"drogher/safe"
	"drogher/sector"
	"drogher/sha"
)

var modes = []uint8{api.ModeAB, api.ModePlace, api.ModeFull}

// signer signs for all tests; none of them runs beside another one.
var signer *hss.Key

func owner(t *testing.T) *hss.Key {
	if signer == nil {
		k, e := hss.New([]byte("owner"), []api.Level{{Lms: api.LmsH10, Ots: api.OtsW1}})
		if e != api.OK {
			t.Fatal(e)
		}
		signer = k
	}
	return signer
}

func noise(seed int64, n int) []byte {
	b := make([]byte, n)
	rand.New(rand.NewSource(seed)).Read(b)
	return b
}

// P28.1: what may be built, and how long it may be.
func TestMayAndMost(t *testing.T) {
	ab := func(block int) api.Options { return api.Options{Mode: api.ModeAB, Block: block} }
	for i, c := range []struct {
		old, new int
		o        api.Options
		want     api.Errno
	}{
		{0, 0, ab(128), api.OK}, {math.MaxInt32, 4096 * 128, ab(128), api.OK}, {0, 1 << 24, ab(4096), api.OK}, {1, 1, api.Options{Mode: api.ModePlace, Block: 128, Version: math.MaxUint64}, api.OK}, {1, 1, api.Options{Mode: api.ModeFull, Block: 300}, api.OK},
		{-1, -1, api.Options{Mode: 0, Block: 128}, api.ErrArg}, {1, 1, api.Options{Mode: 4, Block: 128}, api.ErrArg}, {1, 1, api.Options{Mode: 255, Block: 128}, api.ErrArg}, {-1, 1, ab(127), api.ErrArg}, {1, 1, ab(4097), api.ErrArg}, {1, 1, ab(math.MinInt), api.ErrArg}, {1, 1, ab(math.MaxInt), api.ErrArg},
		{-1, 1, ab(128), api.ErrLong}, {1, -1, ab(128), api.ErrLong}, {1 << 31, 1, ab(128), api.ErrLong}, {1, 1 << 31, ab(4096), api.ErrLong}, {1, 4096*128 + 1, ab(128), api.ErrLong}, {math.MinInt, math.MaxInt, ab(128), api.ErrLong},
	} {
		if e := build.May(c.old, c.new, c.o); e != c.want {
			t.Error("P28.1: may", i, e)
		}
	}
	for _, c := range [][4]int{
		{100, 300, 128, 784}, {0, 0, 128, 0}, {7, 0, 128, 7}, {0, 1, 128, 65}, {0, 128, 128, 192}, {0, 129, 128, 129 + 2*96}, {0, 512, 128, 512 + 4*128}, {0, 513, 128, 513 + 5*160},
		{-1, 1, 128, 0}, {1, -1, 128, 0}, {1, 1, 127, 0}, {1, 1, 4097, 0}, {1 << 31, 1, 128, 0}, {1, 1 << 31, 128, 0}, {math.MinInt, 1, 128, 0}, {1, math.MaxInt, 128, 0}, {1, 1, math.MinInt, 0},
		{math.MaxInt32, math.MaxInt32, 128, 2*math.MaxInt32 + 1<<24*(64+32*24)},
	} {
		if got := build.Most(c[0], c[1], c[2]); got != c[3] {
			t.Error("P28.1: most", c, got)
		}
	}
}

// P28.1: what is refused, and when the key has signed.
func TestRefused(t *testing.T) {
	o := api.Options{Mode: api.ModeAB, Block: 128, Version: 1}
	k, _ := hss.New([]byte("x"), []api.Level{{Lms: api.LmsH5, Ots: api.OtsW1}})
	for i, c := range []struct {
		k    *hss.Key
		o    api.Options
		new  []byte
		want api.Errno
	}{
		{nil, api.Options{}, nil, api.ErrArg}, {nil, o, nil, api.ErrArg}, {k, api.Options{}, nil, api.ErrArg}, {k, api.Options{Mode: 1, Block: 99}, nil, api.ErrArg}, {k, o, make([]byte, 4096*128+1), api.ErrLong},
	} {
		if b, e := build.Build(nil, c.new, c.k, c.o); e != c.want || len(b) != 0 {
			t.Error("P28.1: refused", i, e)
		}
	}
	if k.Next() != 0 {
		t.Error("P28.1: the key has signed")
	}
	for i := range uint64(32) {
		if b, e := build.Build([]byte("a"), []byte("b"), k, o); e != api.OK || len(b) == 0 || k.Next() != i+1 {
			t.Error("P28.1: build", i, e)
		}
	}
	if b, e := build.Build([]byte("a"), []byte("b"), k, o); e != api.ErrSpent || len(b) != 0 {
		t.Error("P28.1: spent", e)
	}
	if _, e := build.Build(nil, make([]byte, 4096*128+1), k, o); e != api.ErrLong {
		t.Error("P28.1: too long goes ahead", e)
	}
}

// built is a package.
func built(t *testing.T, old, new []byte, o api.Options) []byte {
	t.Helper()
	a, b := bytes.Clone(old), bytes.Clone(new)
	p, e := build.Build(old, new, owner(t), o)
	if e != api.OK {
		t.Fatal("P28.2: build", e)
	}
	if !bytes.Equal(old, a) || !bytes.Equal(new, b) {
		t.Fatal("P0.3: changed")
	}
	return p
}

// device is one that is formatted, of version 5, and its layout.
func device(t *testing.T, image []byte, block, slot int) (*sector.Device, api.Disk) {
	c := api.Disk{Sector: 128, Block: block, Slot: slot}
	m, e := part.Layout(c)
	d, f := sector.New(128, m.All)
	if e != api.OK || f != api.OK || applier.Format(d, c, image, 5) != api.OK {
		t.Fatal(e, f)
	}
	return d, c
}

func open(t *testing.T, d *sector.Device, c api.Disk) *applier.Installer {
	t.Helper()
	x, e := applier.Open(d, c, owner(t).Public())
	if e != api.OK {
		t.Fatal(e)
	}
	return x
}

// isImage tells off, if the image is another one.
func isImage(t *testing.T, x *applier.Installer, want []byte) {
	t.Helper()
	if b, e := x.Image(); e != api.OK || !bytes.Equal(b, want) {
		t.Fatal("T1: image", len(b), len(want), e)
	}
}

// images are pairs, an old one and a new one made of it.
func images() [][2][]byte {
	a := noise(1, 3000)
	edited := bytes.Clone(a)
	for i := range 40 {
		edited[i*71]++
	}
	l := [][2][]byte{
		{nil, nil}, {nil, a}, {a, nil}, {a, edited}, {a, noise(2, 2000)}, {a, append(bytes.Clone(a[1500:]), a[:1500]...)}, {a, a[:1]}, {a, a}, {make([]byte, 2000), make([]byte, 2500)}, {a[:100], a},
		{a, append(append(bytes.Clone(a[:700]), noise(3, 77)...), a[700:]...)}, {append(bytes.Clone(a[:256]), a[128:]...), append(bytes.Clone(a[128:256]), a[:2900]...)},
		{a[:256], append(bytes.Clone(a[128:256]), a[:128]...)},
	}
	r := rand.New(rand.NewSource(28))
	for range 12 {
		old := noise(r.Int63(), 1+r.Intn(1500))
		var new []byte
		for range r.Intn(10) {
			at := r.Intn(len(old))
			new = append(append(new, old[at:min(len(old), at+r.Intn(400))]...), noise(r.Int63(), r.Intn(60))...)
		}
		l = append(l, [2][]byte{old, new})
	}
	return l
}

// take takes a package apart.
func take(t *testing.T, p []byte) (api.Manifest, int, []api.Chunk) {
	q := parcel.New()
	at, e := q.Feed(p)
	m, _, _ := q.Header()
	header := at
	var l []api.Chunk
	for q.Next(); e == api.OK && !q.Done(); q.Next() {
		var n int
		n, e = q.Feed(p[at:])
		l = append(l, q.Chunk())
		at += n
	}
	if e != api.OK || at != len(p) {
		t.Fatal("P28.2: it isn't read", e, len(p)-at)
	}
	return m, header, l
}

// P28.2, P28.3, T1, T6: each mode, each pair, in any pieces; and what stands in the package.
func TestBuild(t *testing.T) {
	r := rand.New(rand.NewSource(29))
	for _, mode := range modes {
		for i, c := range images() {
			old, new := c[0], c[1]
			block := []int{128, 256, 384}[i%3]
			o := api.Options{Mode: mode, Block: block, Version: 6 + uint64(i)}
			p := built(t, old, new, o)
			m, header, l := take(t, p)
			if len(p) > build.Most(header, len(new), block) {
				t.Error("P28.3:", mode, i, len(p))
			}
			want := api.Manifest{Mode: mode, Version: o.Version, Block: block, NewLen: len(new), New: sha.Sum(new)}
			if mode != api.ModeFull {
				want.OldLen, want.Old = len(old), sha.Sum(old)
			}
			var leaves []api.Digest
			plans := make([][]api.Step, len(l))
			for k, c := range l {
				leaves = append(leaves, merkle.Leaf(parcel.Row(c)))
				way, _ := inflate.Inflate(c.Pay, delta.Most(block))
				var e api.Errno
				if plans[c.Block], e = plan.Get(way, delta.Most(block)); e != api.OK {
					t.Fatal("P28.2: a plan", k, e)
				}
				for _, s := range plans[c.Block] {
					if mode == api.ModeFull && (s.Kind != api.Lit || len(plans[c.Block]) != 1) {
						t.Error("P28.2: of nothing", k)
					}
				}
			}
			for k, c := range l {
				if way, _ := merkle.Way(leaves, k); len(way) != len(c.Way) || len(way) > 0 && way[0] != c.Way[0] {
					t.Error("P28.2: a way", k)
				}
			}
			want.Root = merkle.Root(leaves)
			if mode == api.ModePlace {
				if e := safe.Check(plans, m.Order, block, len(old), len(new)); e != api.OK {
					t.Error("P28.2: not safe", i, e)
				}
				want.Order = m.Order
			}
			a, _ := manifest.Put(want)
			b, _ := manifest.Put(m)
			if !bytes.Equal(a, b) {
				t.Error("P28.2: the manifest", mode, i)
			}
			was := old
			if mode == api.ModeFull && i%2 == 0 {
				was = noise(9, 500)
			}
			d, disk := device(t, was, block, 30)
			x := open(t, d, disk)
			for at := 0; at < len(p); {
				n := min(len(p)-at, 1+r.Intn(2000))
				if e := x.Feed(uint64(at), p[at:at+n]); e != api.OK {
					t.Fatal("T1: feed", mode, i, e)
				}
				at += n
			}
			if e := x.Commit(); e != api.OK {
				t.Fatal("T1: commit", mode, i, e)
			}
			isImage(t, x, new)
			if s := x.Status(); s.Version != o.Version {
				t.Error("T1: version", s)
			}
		}
	}
}

// P28.4: both images are the same; example 1.
func TestSame(t *testing.T) {
	for _, mode := range modes[:2] {
		for _, b := range [][]byte{noise(5, 5000), make([]byte, 3000), noise(6, 129), {7}, bytes.Repeat([]byte("ab"), 700)} {
			for _, block := range []int{128, 512, 4096} {
				_, _, l := take(t, built(t, b, bytes.Clone(b), api.Options{Mode: mode, Block: block, Version: 6}))
				for k, c := range l {
					w, _ := inflate.Inflate(c.Pay, delta.Most(block))
					p, e := plan.Get(w, delta.Most(block))
					if e != api.OK || len(p) != 1 || len(c.Pay) > 30 || p[0].Kind != api.Copy && (p[0].Kind != api.Lit || p[0].Len > 20) {
						t.Error("P28.4:", mode, len(b), block, k, len(c.Pay))
					}
				}
			}
		}
	}
}

// Example 2: two blocks that change places, in place; one of them comes as it is.
func TestTwoBlocks(t *testing.T) {
	a := noise(7, 256)
	p := built(t, a, append(bytes.Clone(a[128:]), a[:128]...), api.Options{Mode: api.ModePlace, Block: 128, Version: 6})
	_, _, l := take(t, p)
	lits := 0
	for _, c := range l {
		if len(c.Pay) > 128 {
			lits++
		}
	}
	if lits != 1 {
		t.Error("P28.2: how many come as they are", lits)
	}
}

// Many blocks: as many as there may be.
func TestMost(t *testing.T) {
	old := noise(8, 4096*128)
	new := bytes.Clone(old)
	new[70000]++
	p := built(t, old, new, api.Options{Mode: api.ModePlace, Block: 128, Version: 6})
	d, c := device(t, old, 128, 4096)
	x := open(t, d, c)
	if e := x.Feed(0, p); e != api.OK || x.Commit() != api.OK {
		t.Fatal("T1: as many as there may be", e)
	}
	isImage(t, x, new)
}

// T2: whichever byte is another one, nothing of it is taken.
func TestOtherBytes(t *testing.T) {
	r := rand.New(rand.NewSource(30))
	old, new := noise(10, 800), append(noise(11, 300), noise(10, 600)...)
	for _, mode := range modes {
		p := built(t, old, new, api.Options{Mode: mode, Block: 128, Version: 6})
		_, header, l := take(t, p)
		for range 150 {
			q := bytes.Clone(p)
			at := r.Intn(len(q))
			if r.Intn(3) == 0 {
				at = header + r.Intn(len(q)-header)
			}
			q[at] ^= 1 << r.Intn(8)
			d, c := device(t, old, 128, 10)
			x := open(t, d, c)
			writes := d.Writes()
			// What tells of more bytes than there are is short; all else is refused.
			e := x.Feed(0, q)
			s := x.Status()
			if s.State == api.Ready || x.Commit() != api.ErrState {
				t.Fatal("T2: taken", mode, at, e)
			}
			if at < header && (d.Writes() != writes || s.State != api.Idle) {
				t.Fatal("T2: written, of a header", mode, at, e)
			}
			if at >= header && e == api.OK && s.Done == len(l) {
				t.Fatal("T2: not refused", mode, at)
			}
			if mode != api.ModePlace {
				isImage(t, x, old)
			}
			if at >= header {
				end := header
				for k, c := range l {
					b, _ := parcel.Put(c)
					if end += len(b); at < end && s.Done != k {
						t.Fatal("T2: what stood ahead of it isn't installed", at, s.Done, k)
					} else if at < end {
						break
					}
				}
			}
			// The right one ends with the new image.
			if x.Begin() != api.OK || x.Feed(0, p) != api.OK || x.Commit() != api.OK {
				t.Fatal("T2: the right one behind it")
			}
			isImage(t, x, new)
		}
	}
}

// T3: falls, at each call of the device, again and again.
func TestFalls(t *testing.T) {
	r := rand.New(rand.NewSource(31))
	old, new := noise(12, 900), append(noise(12, 500)[128:], noise(13, 500)...)
	for _, mode := range modes {
		p := built(t, old, new, api.Options{Mode: mode, Block: 128, Version: 6})
		m, _, _ := take(t, p)
		for round := range 60 {
			d, c := device(t, old, 128, 10)
			done := 0
			for falls := 0; ; falls++ {
				if falls < 12 {
					d.Fuse(r.Intn(6 + round%30))
				}
				x, e := applier.Open(d, c, owner(t).Public())
				if e == api.OK {
					e = x.Feed(0, p)
				}
				if s := x.Status(); s.Version == 5 && !x.Gone() && s.Done < done {
					t.Fatal("T3: less than was told", s, done)
				}
				done = max(done, x.Status().Done)
				if e == api.OK {
					e = x.Commit()
				}
				if e == api.OK {
					isImage(t, x, new)
					break
				}
				if e == api.ErrVersion { // a commit that was cut off may be there
					isImage(t, x, new)
					break
				}
				if e != api.ErrDown {
					t.Fatal("T3:", mode, e)
				}
				picks := make([]uint8, r.Intn(5))
				for i := range picks {
					picks[i] = uint8(r.Intn(3))
				}
				d.Back(picks)
				y := open(t, d, c)
				if s := y.Status(); s.Version == 6 {
					isImage(t, y, new)
				} else if mode != api.ModePlace {
					isImage(t, y, old)
				} else {
					isPartly(t, y, m, old, new)
				}
			}
		}
	}
}

// isPartly tells off, unless in place the blocks that are done are new, and all else is old.
func isPartly(t *testing.T, x *applier.Installer, m api.Manifest, old, new []byte) {
	want := make([]byte, 1280)
	copy(want, old)
	for k := range x.Status().Done {
		i := m.Order[k]
		b := make([]byte, 128)
		copy(b, delta.Block(new, 128, i))
		copy(want[128*i:], b)
	}
	if got, e := x.Image(); e != api.OK || !bytes.Equal(got, want[:len(old)]) {
		t.Fatal("T3: in place", x.Status().Done, e)
	}
}

// T4: another package than the one that is under way, of a version that isn't higher, of another old image.
func TestOthers(t *testing.T) {
	old, new := noise(14, 700), noise(15, 900)
	for _, mode := range modes {
		o := api.Options{Mode: mode, Block: 128, Version: 6}
		p := built(t, old, new, o)
		d, c := device(t, old, 128, 10)
		x := open(t, d, c)
		refused := func(q []byte, want api.Errno) {
			t.Helper()
			writes := d.Writes()
			before := x.Status()
			x.Begin()
			if e := x.Feed(0, q); e != want || d.Writes() != writes || x.Status().State != before.State || x.Status().Done != before.Done {
				t.Error("T4:", mode, e, want)
			}
			x.Begin()
		}
		refused(built(t, old, new, api.Options{Mode: mode, Block: 128, Version: 5}), api.ErrVersion)
		refused(built(t, old, new, api.Options{Mode: mode, Block: 256, Version: 6}), api.ErrArg)
		if mode != api.ModeFull {
			refused(built(t, old[:699], new, o), api.ErrOld)
			refused(built(t, new[:700], new, o), api.ErrOld)
		}
		x.Feed(0, p[:len(p)-400])
		if s := x.Status(); s.Done == 0 || s.Done == 8 {
			t.Fatal(s)
		}
		refused(built(t, old, new, o), api.ErrOther)
		refused(built(t, old, new, api.Options{Mode: mode, Block: 128, Version: 9}), api.ErrOther)
		if x.Feed(0, p) != api.OK {
			t.Error("T4: the right one")
		}
		refused(built(t, old, new, o), api.ErrOther)
		x.Commit()
		refused(p, api.ErrVersion)
		isImage(t, x, new)
	}
}

// T5: what is held doesn't hang on how long images are.
func TestHeld(t *testing.T) {
	var most [2]int
	for i, n := range []int{20 * 256, 1000 * 256} {
		old := noise(16, n)
		new := bytes.Clone(old)
		new[n/2]++
		p := built(t, old, new, api.Options{Mode: api.ModeAB, Block: 256, Version: 6})
		d, c := device(t, old, 256, n/256)
		x := open(t, d, c)
		for at := 0; at < len(p); at += 500 {
			if e := x.Feed(uint64(at), p[at:min(len(p), at+500)]); e != api.OK {
				t.Fatal(e)
			}
			most[i] = max(most[i], x.Held())
		}
	}
	if most[1] > most[0]+1024 || most[1] > 4*256+1<<17+65536 {
		t.Error("T5:", most)
	}
}

// Example 9, and P28.2 with a key of more levels.
func TestLevels(t *testing.T) {
	k, e := hss.New([]byte("two"), []api.Level{{Lms: api.LmsH5, Ots: api.OtsW2}, {Lms: api.LmsH5, Ots: api.OtsW1}})
	if e != api.OK {
		t.Fatal(e)
	}
	k.Skip(31)
	for i := range uint64(3) {
		p, e := build.Build([]byte("old"), []byte("new"), k, api.Options{Mode: api.ModeAB, Block: 128, Version: 6})
		d, c := device(t, []byte("old"), 128, 3)
		x, f := applier.Open(d, c, k.Public())
		if e != api.OK || f != api.OK || x.Feed(0, p[:len(p)-1]) != api.OK || x.Commit() != api.ErrState || x.Feed(uint64(len(p)-1), p[len(p)-1:]) != api.OK || x.Commit() != api.OK {
			t.Error("P28.2: levels", i, e, f)
		}
		isImage(t, x, []byte("new"))
	}
}
