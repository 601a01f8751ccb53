package applier_test

import (
	"bytes"
	"math"
	"math/rand"
	"testing"

	"drogher/api"
	"drogher/applier"
	"drogher/chunk"
	"drogher/delta"
	"drogher/graph"
	"drogher/hss"
	"drogher/journal"
	"drogher/manifest"
	"drogher/merkle"
	"drogher/parcel"
	"drogher/part"
	"drogher/sector"
	"drogher/sha"
)

var disk = api.Disk{Sector: 128, Block: 128, Slot: 8}

// signer signs for all tests; none of them runs beside another one.
var signer *hss.Key

func owner(t *testing.T) *hss.Key {
	if signer == nil {
		k, e := hss.New([]byte("owner"), []api.Level{{Lms: api.LmsH10, Ots: api.OtsW1}})
		if e != api.OK {
			t.Fatal(e)
		}
		signer = k
	}
	return signer
}

func noise(seed int64, n int) []byte {
	b := make([]byte, n)
	rand.New(rand.NewSource(seed)).Read(b)
	return b
}

// made is what a package is made of.
type made struct {
	m      api.Manifest
	pays   [][]byte
	header []byte
	all    []byte
	ends   []int // behind each chunk
}

// seal signs a manifest, with the root of what is packed.
func seal(t *testing.T, k *hss.Key, m api.Manifest, pays [][]byte) made {
	var l []api.Chunk
	var leaves []api.Digest
	for i, p := range pays {
		l = append(l, api.Chunk{Block: manifest.At(m, i), Pay: p})
		leaves = append(leaves, merkle.Leaf(parcel.Row(l[i])))
	}
	m.Root = merkle.Root(leaves)
	w, e := manifest.Put(m)
	sig, f := k.Sign(w)
	h, g := manifest.Header(m, sig)
	if e != api.OK || f != api.OK || g != api.OK {
		t.Fatal(e, f, g)
	}
	x := made{m: m, pays: pays, header: h, all: bytes.Clone(h)}
	for i := range l {
		l[i].Way, _ = merkle.Way(leaves, i)
		b, e := parcel.Put(l[i])
		if e != api.OK {
			t.Fatal(e)
		}
		x.all = append(x.all, b...)
		x.ends = append(x.ends, len(x.all))
	}
	return x
}

// of is the manifest of two images, and what is packed.
func of(t *testing.T, old, new []byte, mode uint8, version uint64) (api.Manifest, [][]byte) {
	m := api.Manifest{Mode: mode, Version: version, Block: disk.Block, NewLen: len(new), New: sha.Sum(new)}
	plans, _ := delta.Plans(old, new, disk.Block)
	if mode != api.ModeFull {
		m.OldLen, m.Old = len(old), sha.Sum(old)
	}
	if mode == api.ModePlace {
		edges, _ := graph.Edges(plans, disk.Block)
		for i := len(plans) - 1; i >= 0; i-- { // from the last one on: who reads a later one is literal
			m.Order = append(m.Order, i)
			for _, j := range edges[i] {
				if j > i {
					plans[i] = delta.Literal(delta.Block(new, disk.Block, i))
				}
			}
		}
	}
	var pays [][]byte
	for k := range plans {
		i := manifest.At(m, k)
		p := plans[i]
		if mode == api.ModeFull {
			p = delta.Literal(delta.Block(new, disk.Block, i))
		}
		b, e := chunk.Pack(p)
		if e != api.OK {
			t.Fatal(e)
		}
		pays = append(pays, b)
	}
	return m, pays
}

// pack makes a package.
func pack(t *testing.T, k *hss.Key, old, new []byte, mode uint8, version uint64) made {
	m, pays := of(t, old, new, mode, version)
	return seal(t, k, m, pays)
}

// device is one that is formatted, of version 5.
func device(t *testing.T, image []byte) *sector.Device {
	m, _ := part.Layout(disk)
	d, _ := sector.New(disk.Sector, m.All)
	if e := applier.Format(d, disk, image, 5); e != api.OK {
		t.Fatal("P27.1: format", e)
	}
	return d
}

func open(t *testing.T, d *sector.Device, k *hss.Key) *applier.Installer {
	t.Helper()
	x, e := applier.Open(d, disk, k.Public())
	if e != api.OK || x == nil || x.Gone() {
		t.Fatal("P27.1: open", e)
	}
	return x
}

// isImage tells off, if the old image is another one.
func isImage(t *testing.T, x *applier.Installer, want []byte) {
	t.Helper()
	if b, e := x.Image(); e != api.OK || !bytes.Equal(b, want) {
		t.Fatal("P27.1: image", len(b), len(want), e)
	}
}

// images are an old one, and new ones made of it.
func images() ([]byte, [][]byte) {
	old := noise(1, 900)
	turned := append(bytes.Clone(old[450:]), old[:450]...)
	edited := bytes.Clone(old[:800])
	edited[100]++
	edited[700]++
	return old, [][]byte{old, turned, edited, noise(2, 1024), nil, old[:1], append(bytes.Clone(old), noise(3, 100)...), noise(4, 500)}
}

var modes = []uint8{api.ModeAB, api.ModePlace, api.ModeFull}

// P27.1, P27.2: packages in any pieces make the new image.
func TestInstall(t *testing.T) {
	r := rand.New(rand.NewSource(27))
	k := owner(t)
	old, news := images()
	for _, mode := range modes {
		for i, new := range news {
			p := pack(t, k, old, new, mode, 6)
			for _, size := range []int{1 << 20, 1, 50, 1000} {
				d := device(t, old)
				x := open(t, d, k)
				isImage(t, x, old)
				if s := x.Status(); s != (api.Status{Version: 5, Length: 900}) || x.Commit() != api.ErrState || x.Cancel() != api.ErrState {
					t.Fatal("P27.1: a new one", s)
				}
				for at := 0; at < len(p.all); {
					n := min(len(p.all)-at, 1+r.Intn(size))
					if size == 1<<20 {
						n = len(p.all)
					}
					if e := x.Feed(uint64(at), p.all[at:at+n]); e != api.OK {
						t.Fatal("P27.2:", mode, i, size, e)
					}
					at += n
					s := x.Status()
					done := 0
					for _, end := range p.ends {
						if at >= end {
							done++
						}
					}
					want := api.Status{Active: 0, Version: 5, Length: 900, Want: uint64(at)}
					if at >= len(p.header) {
						want.State, want.Mode, want.Done = api.Filling, mode, done
						if at == len(p.all) {
							want.State = api.Ready
						}
					}
					if s != want {
						t.Fatal("P27.1: status", s, want)
					}
					if x.Held() > 4*128+1<<17+65536 || x.Held() < min(at, len(p.header)) {
						t.Fatal("P27.4:", x.Held())
					}
					if mode != api.ModePlace {
						isImage(t, x, old)
					}
				}
				if x.Feed(uint64(len(p.all)), nil) != api.ErrState || x.Feed(0, p.all) != api.ErrState {
					t.Fatal("P27.1: all was read")
				}
				if e := x.Commit(); e != api.OK {
					t.Fatal("P27.1: commit", e)
				}
				isImage(t, x, new)
				slot := uint8(1)
				if mode == api.ModePlace {
					slot = 0
				}
				if s := x.Status(); s.State != api.Idle || s.Mode != 0 || s.Active != slot || s.Version != 6 || s.Length != len(new) || s.Done != 0 || x.Commit() != api.ErrState {
					t.Fatal("P27.1: status behind the commit", s)
				}
				isImage(t, open(t, d, k), new)
			}
		}
	}
}

// P27.1: one package behind the other, each into the slot that isn't active.
func TestAgain(t *testing.T) {
	k := owner(t)
	old, news := images()
	d := device(t, old)
	x := open(t, d, k)
	for i, mode := range []uint8{api.ModeAB, api.ModeAB, api.ModeFull, api.ModeAB, api.ModePlace, api.ModeFull, api.ModePlace} {
		new := news[1+i%3]
		slot := x.Status().Active
		p := pack(t, k, old, new, mode, 6+uint64(i))
		if x.Begin() != api.OK || x.Feed(0, p.all[:p.ends[len(p.ends)-1]-1]) != api.OK {
			t.Fatal("P27.1: again", i)
		}
		if mode != api.ModePlace {
			isImage(t, x, old)
		}
		if x.Feed(x.Status().Want, p.all[len(p.all)-1:]) != api.OK || x.Commit() != api.OK || (x.Status().Active == slot) != (mode == api.ModePlace) {
			t.Fatal("P27.1: again", i, x.Status())
		}
		isImage(t, x, new)
		old = new
	}
}

// P27.1: how often is written: a block and a record, in place twice as often.
func TestWrites(t *testing.T) {
	k := owner(t)
	old, news := images()
	for _, mode := range modes {
		p := pack(t, k, old, news[1], mode, 6)
		d := device(t, old)
		x := open(t, d, k)
		before := d.Writes()
		x.Feed(0, p.header)
		if d.Writes() != before+1 {
			t.Error("P27.1: writes behind the header", mode, d.Writes()-before)
		}
		each := uint64(2)
		if mode == api.ModePlace {
			each = 4
		}
		if x.Feed(uint64(len(p.header)), p.all[len(p.header):p.ends[2]]) != api.OK || d.Writes() != before+1+3*each {
			t.Error("P27.1: writes behind three chunks", mode, d.Writes()-before)
		}
	}
}

// P27.1: what the journal says, thing by thing.
func TestRecords(t *testing.T) {
	k := owner(t)
	old, news := images()
	layout, _ := part.Layout(disk)
	for _, mode := range modes {
		p := pack(t, k, old, news[1], mode, 9)
		d := device(t, old)
		x := open(t, d, k)
		last := func() api.Record {
			j, e := journal.Open(d, layout)
			if e != api.OK {
				t.Fatal(e)
			}
			r := j.Last()
			r.Seq = 0
			return r
		}
		want := api.Record{Version: 5, Length: 900}
		if last() != want {
			t.Fatal("P27.1: formatted", last())
		}
		_, w, s := header(p)
		want.State, want.Mode, want.Manifest, want.NewVersion, want.NewLen, want.At = api.Filling, mode, sha.Sum(append(w, s...)), 9, len(news[1]), uint64(len(p.header))
		at := 0
		for i, end := range append([]int{len(p.header)}, p.ends...) {
			if x.Feed(uint64(at), p.all[at:end]) != api.OK || i == len(p.ends) {
				break
			}
			want.Done, want.At, at = i, uint64(end), end
			if last() != want {
				t.Fatal("P27.1: behind thing", i, last(), want)
			}
		}
		want.Done, want.At, want.State = len(p.ends), uint64(len(p.all)), api.Ready
		if last() != want {
			t.Fatal("P27.1: ready", last(), want)
		}
		x.Commit()
		active := uint8(1)
		if mode == api.ModePlace {
			active = 0
		}
		if last() != (api.Record{Active: active, Version: 9, Length: len(news[1])}) {
			t.Fatal("P27.1: committed", last())
		}
	}
}

// header takes a package's header apart.
func header(p made) (api.Manifest, []byte, []byte) {
	q := parcel.New()
	q.Feed(p.header)
	return q.Header()
}

// P27.1: what the header is asked, in its order; nothing is written.
func TestHeaderErrors(t *testing.T) {
	k := owner(t)
	other, _ := hss.New([]byte("stranger"), []api.Level{{Lms: api.LmsH5, Ots: api.OtsW1}})
	old, news := images()
	change := func(mode uint8, f func(*api.Manifest)) made {
		m, pays := of(t, old, news[1], mode, 6)
		f(&m)
		if delta.Blocks(m.NewLen, m.Block) != len(pays) {
			pays = make([][]byte, delta.Blocks(m.NewLen, m.Block))
		}
		return seal(t, k, m, pays)
	}
	spoilt := pack(t, k, old, news[1], api.ModeAB, 6)
	spoilt.all[20] ^= 1
	for i, c := range []struct {
		p    made
		want api.Errno
	}{
		{spoilt, api.ErrSign}, {pack(t, other, old, news[1], api.ModeAB, 6), api.ErrSign}, {pack(t, other, old, news[1], api.ModeAB, 1), api.ErrSign},
		{change(api.ModeAB, func(m *api.Manifest) { m.Block = 256 }), api.ErrArg}, {change(api.ModeAB, func(m *api.Manifest) { m.Block, m.NewLen, m.Version = 256, 1<<12, 1 }), api.ErrArg},
		{change(api.ModeAB, func(m *api.Manifest) { m.NewLen = 1025 }), api.ErrFull}, {change(api.ModeAB, func(m *api.Manifest) { m.NewLen, m.Version = 1025, 5 }), api.ErrFull},
		{change(api.ModeAB, func(m *api.Manifest) { m.Version = 5 }), api.ErrVersion}, {change(api.ModeFull, func(m *api.Manifest) { m.Version = 0 }), api.ErrVersion}, {change(api.ModePlace, func(m *api.Manifest) { m.Version, m.OldLen = 5, 1 }), api.ErrVersion},
		{change(api.ModeAB, func(m *api.Manifest) { m.OldLen = 899 }), api.ErrOld}, {change(api.ModePlace, func(m *api.Manifest) { m.OldLen = 901 }), api.ErrOld}, {change(api.ModeAB, func(m *api.Manifest) { m.Old[3]++ }), api.ErrOld},
		{change(api.ModeAB, func(m *api.Manifest) { m.Version = math.MaxUint64 }), api.OK}, {change(api.ModeFull, func(m *api.Manifest) {}), api.OK},
	} {
		d := device(t, old)
		x := open(t, d, k)
		writes := d.Writes()
		head := c.p.all[:len(c.p.header)]
		if e := x.Feed(0, head[:len(head)-1]); e != api.OK {
			t.Error("P27.1: ahead of the last byte", i, e)
		}
		e := x.Feed(uint64(len(head)-1), head[len(head)-1:])
		s := x.Status()
		if e != c.want || s.Err != e || (e == api.OK) != (s.Want == uint64(len(head))) || e != api.OK && s.Want != 0 {
			t.Error("P27.1: header", i, e, c.want, s)
		}
		if e == api.OK {
			continue
		}
		if d.Writes() != writes || s.State != api.Idle {
			t.Error("T4: something was written", i)
		}
		if x.Feed(0, c.p.all) != e || x.Feed(s.Want, nil) != e || x.Feed(99, nil) != e {
			t.Error("P27.1: it isn't told again", i)
		}
		isImage(t, x, old)
		if x.Begin() != api.OK || x.Status().Err != api.OK || x.Feed(0, pack(t, k, old, news[2], api.ModeAB, 6).all) != api.OK {
			t.Error("P27.1: it doesn't begin anew", i)
		}
	}
	// A torn sector of the old image.
	d := device(t, old)
	m, _ := part.Layout(disk)
	d.Write(m.Slots[0].First+2, make([]byte, 128))
	d.Back([]uint8{api.Torn})
	x := open(t, d, k)
	if e := x.Feed(0, pack(t, k, old, news[1], api.ModeAB, 6).all); e != api.ErrUnread || x.Status().Err != e {
		t.Error("P27.1: a torn old image", e)
	}
	if _, e := x.Image(); e != api.ErrUnread {
		t.Error("P27.1: image of a torn one", e)
	}
	x.Begin()
	if e := x.Feed(0, pack(t, k, old, news[1], api.ModeFull, 6).all); e != api.OK || x.Commit() != api.OK {
		t.Error("P27.1: of nothing, over a torn one", e)
	}
}

// P27.1, P27.2: spoilt chunks, and what else may stand in signed ones.
func TestChunkErrors(t *testing.T) {
	k := owner(t)
	old, news := images()
	new := news[1]
	lit := func(n int) []byte {
		b, _ := chunk.Pack(delta.Literal(make([]byte, n)))
		return b
	}
	copied := func(from, n int) []byte {
		b, _ := chunk.Pack([]api.Step{{Kind: api.Copy, From: from, Len: n}})
		return b
	}
	turn := func(at int) func(*made) {
		return func(p *made) { p.all[p.ends[1]+at] ^= 1 }
	}
	none := func(*made) {}
	for i, c := range []struct {
		chunk int    // of which
		pay   []byte // is this one
		spoil func(*made)
		want  api.Errno
		done  int
	}{
		{-1, nil, func(p *made) { p.all[p.ends[2]-1] ^= 1 }, api.ErrHash, 2}, {-1, nil, turn(9), api.ErrHash, 2}, {-1, nil, turn(0), api.ErrOrder, 2}, {-1, nil, turn(4), api.ErrCap, 2}, {-1, nil, turn(8), api.ErrForm, 2},
		{3, []byte{7}, none, api.ErrDeflate, 3}, {3, lit(127), none, api.ErrPlan, 3}, {0, nil, none, api.ErrDeflate, 0}, {3, copied(800, 128), none, api.ErrRange, 3},
		{3, lit(128), none, api.ErrNew, 8}, {3, copied(772, 128), none, api.ErrNew, 8},
	} {
		for _, mode := range []uint8{api.ModeAB, api.ModePlace} {
			m, pays := of(t, old, new, mode, 6)
			if c.chunk >= 0 {
				pays[c.chunk] = c.pay
			}
			p := seal(t, k, m, pays)
			c.spoil(&p)
			for _, size := range []int{1, 100, 1 << 20} {
				d := device(t, old)
				x := open(t, d, k)
				e := api.OK
				for at := 0; at < len(p.all) && e == api.OK; {
					n := min(size, len(p.all)-at)
					e = x.Feed(uint64(at), p.all[at:at+n])
					at += n
				}
				s := x.Status()
				if e != c.want || s.Done != c.done || s.State != api.Filling || s.Err != e || s.Want != 0 || x.Commit() != api.ErrState {
					t.Fatal("P27.2:", i, mode, size, e, c.want, s)
				}
				if mode == api.ModeAB {
					isImage(t, x, old)
					if x.Cancel() != api.OK || x.Status() != (api.Status{Version: 5, Length: 900}) {
						t.Error("P27.1: cancel", i)
					}
				} else if e := x.Cancel(); (e == api.ErrState) != (c.done > 0) {
					t.Error("P27.1: cancel in place", i, e)
				}
			}
		}
	}
}

// P27.1: bytes where they don't belong.
func TestFeed(t *testing.T) {
	k := owner(t)
	old, news := images()
	p := pack(t, k, old, news[2], api.ModeAB, 6)
	d := device(t, old)
	x := open(t, d, k)
	if x.Feed(1, p.all) != api.ErrOffset || x.Feed(math.MaxUint64, nil) != api.ErrOffset || x.Status() != (api.Status{Version: 5, Length: 900}) || x.Feed(0, nil) != api.OK {
		t.Error("P27.1: offset")
	}
	x.Feed(0, p.all[:10])
	if x.Feed(0, p.all) != api.ErrOffset || x.Feed(11, nil) != api.ErrOffset || x.Status().Want != 10 {
		t.Error("P27.1: offset")
	}
	long := append(bytes.Clone(p.all), 0)
	if e := x.Feed(10, long[10:]); e != api.ErrForm || x.Status().State != api.Ready || x.Status().Err != e || x.Feed(0, nil) != e {
		t.Error("P27.1: bytes left", e)
	}
	if x.Begin() != api.OK || x.Feed(0, long) != api.ErrForm || x.Begin() != api.OK || x.Feed(0, p.all) != api.OK || x.Status().Want != uint64(len(p.all)) {
		t.Error("P27.1: fed again")
	}
	writes := d.Writes()
	y := open(t, d, k)
	if e := y.Feed(0, p.header); e != api.OK || y.Feed(y.Status().Want, nil) != api.ErrState || y.Status().Want != uint64(len(p.all)) || d.Writes() != writes {
		t.Error("P27.1: it was ready already", e)
	}
	if x.Feed(uint64(len(p.all)), []byte{0}) != api.ErrState || x.Commit() != api.OK || x.Feed(0, p.all) != api.ErrState || x.Begin() != api.OK || x.Feed(0, p.all) != api.ErrVersion {
		t.Error("P27.1: behind the commit")
	}
}

// P27.1: where an installation goes on; T4: another package.
func TestGoOn(t *testing.T) {
	k := owner(t)
	old, news := images()
	for _, mode := range modes {
		p := pack(t, k, old, news[1], mode, 6)
		twin := pack(t, k, old, news[1], mode, 6) // the same manifest, another signature
		for done := range len(p.ends) + 1 {
			stop := len(p.header)
			if done > 0 {
				stop = p.ends[done-1]
			}
			for _, more := range []int{0, 1, 20} {
				d := device(t, old)
				x := open(t, d, k)
				x.Feed(0, p.all[:min(stop+more, len(p.all))])
				y := open(t, d, k)
				if s := y.Status(); s.Done != done || s.Want != 0 {
					t.Fatal("P27.1: opened", s)
				}
				writes := d.Writes()
				if e := y.Feed(0, twin.all); e != api.ErrOther || d.Writes() != writes {
					t.Fatal("T4:", e)
				}
				y.Begin()
				if e := y.Feed(0, p.header[:50]); e != api.OK || y.Feed(50, p.all[50:len(p.header)+5]) != api.OK {
					t.Fatal("P27.1: the header again", e)
				}
				if done > 0 && y.Status().Want != uint64(stop) {
					t.Fatal("P27.1: want", y.Status().Want, stop)
				}
				want := y.Status().Want
				if done < len(p.ends) && y.Feed(want, p.all[want:]) != api.OK || y.Status().State != api.Ready {
					t.Fatal("P27.1: the rest", mode, done, y.Status())
				}
				z := open(t, d, k)
				if e := z.Feed(0, p.all); e != api.OK || z.Commit() != api.OK {
					t.Fatal("P27.1: as a whole", e)
				}
				isImage(t, z, news[1])
			}
		}
	}
}

// P27.1: cancelling.
func TestCancel(t *testing.T) {
	k := owner(t)
	old, news := images()
	for _, mode := range modes {
		p := pack(t, k, old, news[1], mode, 6)
		for _, end := range append([]int{len(p.header), len(p.header) + 3}, p.ends...) {
			d := device(t, old)
			x := open(t, d, k)
			x.Feed(0, p.all[:end])
			e := x.Cancel()
			if mode == api.ModePlace && end >= p.ends[0] {
				if e != api.ErrState || x.Status().Want != uint64(end) {
					t.Error("P27.1: cancel in place", e)
				}
				continue
			}
			if e != api.OK || x.Status() != (api.Status{Version: 5, Length: 900}) || x.Cancel() != api.ErrState {
				t.Error("P27.1: cancel", mode, end, e, x.Status())
			}
			isImage(t, x, old)
			if e := x.Feed(0, pack(t, k, old, news[2], mode, 6).all); e != api.OK || x.Commit() != api.OK {
				t.Error("P27.1: another package behind it", e)
			}
			isImage(t, x, news[2])
		}
	}
	d := device(t, old)
	x := open(t, d, k)
	x.Feed(0, pack(t, k, old, nil, api.ModePlace, 6).all)
	if s := x.Status(); s.State != api.Ready || x.Cancel() != api.OK {
		t.Error("P27.1: an empty image in place", s)
	}
	isImage(t, x, old)
}

// P27.1: formats, and what isn't opened.
func TestFormatAndOpen(t *testing.T) {
	k := owner(t)
	old, _ := images()
	m, _ := part.Layout(disk)
	few, _ := sector.New(128, m.All-1)
	wide, _ := sector.New(256, 99)
	good, _ := sector.New(128, m.All)
	for i, c := range []struct {
		d     *sector.Device
		c     api.Disk
		image []byte
		want  api.Errno
	}{
		{nil, disk, nil, api.ErrArg}, {few, disk, nil, api.ErrArg}, {wide, disk, nil, api.ErrArg}, {good, api.Disk{}, make([]byte, 9999), api.ErrArg}, {good, disk, make([]byte, 1025), api.ErrFull}, {good, disk, make([]byte, 1024), api.OK}, {good, disk, nil, api.OK},
	} {
		if e := applier.Format(c.d, c.c, c.image, 1); e != c.want {
			t.Error("P27.1: format", i, e)
		}
		x, e := applier.Open(c.d, c.c, k.Public())
		if c.want == api.ErrArg && (e != api.ErrArg || x != nil) {
			t.Error("P27.1: open", i, e)
		}
	}
	for _, n := range []int{1, 127, 128, 129, 1024} {
		d := device(t, noise(9, n))
		isImage(t, open(t, d, k), noise(9, n))
	}
	// What stood there doesn't count.
	d := device(t, old)
	x := open(t, d, k)
	x.Feed(0, pack(t, k, old, old, api.ModePlace, 6).all[:5000])
	if e := applier.Format(d, disk, []byte("hello"), 2); e != api.OK {
		t.Error("P27.1: format", e)
	}
	x = open(t, d, k)
	isImage(t, x, []byte("hello"))
	if x.Status() != (api.Status{Version: 2, Length: 5}) || d.Waits() != 0 {
		t.Error("P27.1: formatted", x.Status())
	}
	d.Off()
	if y, e := applier.Open(d, disk, nil); e != api.ErrDown || y != nil || applier.Format(d, disk, nil, 1) != api.ErrDown {
		t.Error("P27.1: off", e)
	}
	d.Back(nil)
	public := k.Public()
	x, _ = applier.Open(d, disk, public)
	clear(public)
	if e := x.Feed(0, pack(t, k, nil, old, api.ModeFull, 3).all); e != api.OK {
		t.Error("P0.3: the public key", e)
	}
	for _, bad := range [][]byte{nil, {1}, make([]byte, 60)} {
		x, e := applier.Open(d, disk, bad)
		if e != api.OK || x.Feed(0, pack(t, k, nil, old, api.ModeFull, 3).all) != api.ErrSign {
			t.Error("P27.1: a public key that is none", e)
		}
	}
	var none *applier.Installer
	_, e := none.Image()
	if e != api.ErrArg || none.Feed(0, nil) != api.ErrArg || none.Begin() != api.ErrArg || none.Commit() != api.ErrArg || none.Cancel() != api.ErrArg || none.Held() != 0 || !none.Gone() || none.Status() != (api.Status{}) {
		t.Error("P27.1: nil", e)
	}
}

// P27.1: a device that went off since.
func TestGone(t *testing.T) {
	k := owner(t)
	old, news := images()
	d := device(t, old)
	x := open(t, d, k)
	p := pack(t, k, old, news[1], api.ModeAB, 6)
	x.Feed(0, p.all[:len(p.header)])
	d.Off()
	for range 2 {
		_, e := x.Image()
		if !x.Gone() || e != api.ErrDown || x.Feed(9, nil) != api.ErrDown || x.Begin() != api.ErrDown || x.Commit() != api.ErrDown || x.Cancel() != api.ErrDown || x.Status().State != api.Filling {
			t.Error("P27.1: gone", e)
		}
		d.Back(nil)
	}
	if y := open(t, d, k); y.Feed(0, p.all) != api.OK {
		t.Error("P27.1: opened again")
	}
}

// fall lets an installation fall at one call of the device; it tells whether it did.
func fall(t *testing.T, k *hss.Key, p made, old, new []byte, fuse int, picks []uint8) bool {
	mode := p.m.Mode
	d := device(t, old)
	x := open(t, d, k)
	d.Fuse(fuse)
	told := 0
	e := api.OK
	for at, i := 0, 0; e == api.OK && i <= len(p.ends); i++ {
		end := append([]int{len(p.header)}, p.ends...)[i]
		e = x.Feed(uint64(at), p.all[at:end])
		at = end
		told = x.Status().Done
	}
	isCommit := e == api.OK
	if isCommit {
		e = x.Commit()
	}
	if e == api.OK {
		return false
	}
	if e != api.ErrDown || !x.Gone() {
		t.Fatal("P27.1: by a fuse", e)
	}
	d.Back(picks)
	// It may fall again while it is opened.
	if len(picks)%3 == 1 {
		d.Fuse(len(picks) % 5)
		if y, e := applier.Open(d, disk, k.Public()); e != api.OK && (e != api.ErrDown || y != nil) {
			t.Fatal("P27.1: opened, by a fuse", e)
		}
		d.Back(append([]uint8{api.Torn, api.New}, picks...))
	}
	y := open(t, d, k)
	s := y.Status()
	if s.State == api.Idle && s.Version == 6 && isCommit {
		isImage(t, y, new)
		return true
	}
	if s.Done < told || s.State == api.Aside || isCommit && s.State != api.Ready {
		t.Fatal("P27.3: done", s, told)
	}
	if mode != api.ModePlace {
		isImage(t, y, old)
	} else {
		isPartly(t, d, p.m, old, new, s.Done)
	}
	if e := y.Feed(0, p.all); e != api.OK || y.Commit() != api.OK {
		t.Fatal("T3: fed again", e)
	}
	isImage(t, y, new)
	return true
}

// isPartly tells off, unless the first blocks of the order are new, and all else is old.
func isPartly(t *testing.T, d *sector.Device, m api.Manifest, old, new []byte, done int) {
	want := make([]byte, 1024)
	copy(want, old)
	for k := range done {
		i := m.Order[k]
		b := make([]byte, 128)
		copy(b, delta.Block(new, 128, i))
		copy(want[128*i:], b)
	}
	layout, _ := part.Layout(disk)
	slot, _ := part.Open(d, layout.Slots[0])
	if got, e := slot.Read(0, 1024); e != api.OK || !bytes.Equal(got, want) {
		t.Fatal("P27.3: in place", done, e)
	}
}

// P27.3: falls at each call of the device.
func TestFalls(t *testing.T) {
	r := rand.New(rand.NewSource(28))
	k := owner(t)
	old, news := images()
	for _, mode := range modes {
		for _, new := range [][]byte{news[1], news[2], nil} {
			p := pack(t, k, old, new, mode, 6)
			falls := 0
			for fuse := 0; ; fuse++ {
				fell := false
				for _, picks := range [][]uint8{nil, {api.New, api.New, api.New}, {api.Torn, api.Torn, api.Torn}, {uint8(r.Intn(3)), uint8(r.Intn(3)), uint8(r.Intn(3)), uint8(r.Intn(3))}} {
					fell = fall(t, k, p, old, new, fuse, picks)
				}
				if !fell {
					break
				}
				falls++
			}
			if falls < 3*len(p.ends)+9 {
				t.Error("P27.3: too few falls", mode, falls)
			}
		}
	}
}

// P27.4: the longest header, and T5: what is held doesn't hang on how long images are.
func TestHeld(t *testing.T) {
	k := owner(t)
	c := api.Disk{Sector: 128, Block: 128, Slot: 4096}
	m, _ := part.Layout(c)
	d, _ := sector.New(128, m.All)
	if e := applier.Format(d, c, nil, 1); e != api.OK {
		t.Fatal(e)
	}
	x, e := applier.Open(d, c, k.Public())
	if e != api.OK {
		t.Fatal(e)
	}
	man := api.Manifest{Mode: api.ModePlace, Version: 2, Block: 128, NewLen: 4096 * 128, Old: sha.Sum(nil), Order: rand.New(rand.NewSource(1)).Perm(4096)}
	pay, _ := chunk.Pack(delta.Literal(make([]byte, 128)))
	man.New = sha.Sum(make([]byte, 4096*128))
	var leaves []api.Digest
	for _, i := range man.Order {
		leaves = append(leaves, merkle.Leaf(parcel.Row(api.Chunk{Block: i, Pay: pay})))
	}
	man.Root = merkle.Root(leaves)
	w, _ := manifest.Put(man)
	sig, _ := k.Sign(w)
	h, _ := manifest.Header(man, sig)
	all := h
	for i := range 40 {
		way, _ := merkle.Way(leaves, i)
		b, _ := parcel.Put(api.Chunk{Block: man.Order[i], Way: way, Pay: pay})
		all = append(all, b...)
	}
	for at := 0; at < len(all); {
		n := min(77, len(all)-at)
		if e := x.Feed(uint64(at), all[at:at+n]); e != api.OK {
			t.Fatal("P27.4:", at, e)
		}
		at += n
		if x.Held() > 4*128+1<<17+65536 {
			t.Fatal("P27.4:", x.Held())
		}
	}
	if x.Status().Done != 40 {
		t.Error("P27.4:", x.Status())
	}
}
