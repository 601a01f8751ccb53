package updater_test

import (
	"bytes"
	"math"
	"math/rand"
	"reflect"
	"testing"

	"drogher/api"
	"drogher/applier"
	"drogher/build"
	"drogher/hss"
	"drogher/journal"
	"drogher/part"
	"drogher/updater"
)

var disk = api.Disk{Sector: 128, Block: 128, Slot: 6}

func noise(seed int64, n int) []byte {
	b := make([]byte, n)
	rand.New(rand.NewSource(seed)).Read(b)
	return b
}

func world(t *testing.T, image []byte) *updater.World {
	t.Helper()
	w, e := updater.New(disk, []byte("seed"), image, 5)
	if e != api.OK || w == nil {
		t.Fatal("P29.1: new", e)
	}
	return w
}

// done does an act that is to be OK.
func done(t *testing.T, w *updater.World, a api.Act) api.Reply {
	t.Helper()
	r := w.Do(a)
	if r.Err != api.OK {
		t.Fatal("P29.1:", a.Kind, r.Err)
	}
	return r
}

// failed tells off, if an act isn't answered that error, and nothing beside it but the status.
func failed(t *testing.T, w *updater.World, a api.Act, want api.Errno) {
	t.Helper()
	r := w.Do(a)
	if r.Err != want || r.N != 0 || len(r.Data) != 0 || r.Status != w.Do(api.Act{Kind: api.ActStatus}).Status {
		t.Error("P29.1:", a.Kind, r.Err, want, r)
	}
}

func builds(mode uint8, version uint64, data []byte) api.Act {
	return api.Act{Kind: api.ActBuild, Mode: mode, Version: version, Data: data}
}

func feeds(p, n int) api.Act { return api.Act{Kind: api.ActFeed, P: p, N: n} }

func of(kind uint8) api.Act { return api.Act{Kind: kind} }

// P29.1: what may not be made, and what a new world has.
func TestNew(t *testing.T) {
	for i, c := range []struct {
		c     api.Disk
		image []byte
		want  api.Errno
	}{
		{api.Disk{}, nil, api.ErrArg}, {api.Disk{Sector: 128, Block: 129, Slot: 1}, make([]byte, 9999), api.ErrArg}, {disk, make([]byte, 769), api.ErrFull}, {disk, make([]byte, 768), api.OK}, {disk, nil, api.OK},
	} {
		if w, e := updater.New(c.c, nil, c.image, 1); e != c.want || (w == nil) != (e != api.OK) {
			t.Error("P29.1: new", i, e)
		}
	}
	image, seed := noise(1, 300), []byte("seed")
	w, _ := updater.New(disk, seed, image, 5)
	was := bytes.Clone(image)
	clear(image)
	clear(seed)
	k, _ := hss.New([]byte("seed"), []api.Level{{Lms: api.LmsH5, Ots: api.OtsW1}})
	m, _ := part.Layout(disk)
	if !bytes.Equal(w.Base(), was) || w.Packages() != 0 || len(w.Package(0)) != 0 || !bytes.Equal(w.Public(), k.Public()) || w.Device().Count() != m.All || w.Device().Size() != 128 {
		t.Error("P29.1: a new world")
	}
	if r := w.Do(of(api.ActStatus)); r.Status != (api.Status{Version: 5, Length: 300}) || r.Err != api.OK {
		t.Error("P29.1: status", r)
	}
	if r := w.Do(of(api.ActImage)); r.Err != api.OK || !bytes.Equal(r.Data, was) {
		t.Error("P29.1: image", r.Err)
	}
	failed(t, w, of(api.ActCommit), api.ErrState)
	failed(t, w, of(api.ActCancel), api.ErrState)
	for _, kind := range []uint8{0, 11, 255} {
		failed(t, w, of(kind), api.ErrKind)
	}
	if _, e := applier.Open(w.Device(), disk, w.Public()); e != api.OK {
		t.Error("P29.1: the device", e)
	}
	var none *updater.World
	for kind := range uint8(12) {
		if r := none.Do(of(kind)); !reflect.DeepEqual(r, api.Reply{Err: api.ErrArg}) {
			t.Error("P29.1: nil", r)
		}
	}
	if len(none.Base())+none.Packages()+len(none.Package(0))+len(none.Public()) != 0 || none.Device() != nil {
		t.Error("P29.1: nil")
	}
}

// P29.1: packages that are built, and spoilt.
func TestBuildAndSpoil(t *testing.T) {
	old, new := noise(1, 300), noise(2, 500)
	w := world(t, old)
	if r := done(t, w, builds(api.ModeAB, 6, new)); r.N != 0 || r.Status.Version != 5 {
		t.Error("P29.1: build", r)
	}
	k, _ := hss.New([]byte("seed"), []api.Level{{Lms: api.LmsH5, Ots: api.OtsW1}})
	if p, _ := build.Build(old, new, k, api.Options{Mode: api.ModeAB, Block: 128, Version: 6}); !bytes.Equal(w.Package(0), p) {
		t.Error("P29.1: package")
	}
	failed(t, w, builds(0, 6, new), api.ErrArg)
	failed(t, w, builds(api.ModeAB, 6, make([]byte, 4096*128+1)), api.ErrLong)
	if r := done(t, w, api.Act{Kind: api.ActSpoil, P: 0, N: 20, Mode: 3}); r.N != 1 {
		t.Error("P29.1: spoil", r)
	}
	p := w.Package(0)
	p[20] ^= 3
	if !bytes.Equal(w.Package(1), p) || bytes.Equal(w.Package(0), p) {
		t.Error("P29.1: spoilt")
	}
	clear(w.Package(0))
	clear(w.Base())
	clear(done(t, w, of(api.ActImage)).Data)
	if bytes.Equal(w.Package(0)[:4], []byte{0, 0, 0, 0}) || !bytes.Equal(w.Base(), old) {
		t.Error("P0.3: shared")
	}
	for _, c := range []struct {
		p, n int
		mode uint8
		want api.Errno
	}{
		{-1, 0, 0, api.ErrRange}, {2, 0, 1, api.ErrRange}, {0, -1, 0, api.ErrRange}, {0, len(p), 0, api.ErrRange}, {math.MinInt, math.MaxInt, 0, api.ErrRange}, {0, math.MaxInt, 1, api.ErrRange}, {0, 0, 0, api.ErrArg},
	} {
		failed(t, w, api.Act{Kind: api.ActSpoil, P: c.p, N: c.n, Mode: c.mode}, c.want)
	}
	for i := 2; i < 32; i++ {
		if r := done(t, w, api.Act{Kind: api.ActSpoil, N: i, Mode: 1}); r.N != i || w.Packages() != i+1 {
			t.Error("P29.1: spoil", r)
		}
	}
	failed(t, w, builds(0, 6, nil), api.ErrFull)
	failed(t, w, api.Act{Kind: api.ActSpoil, Mode: 1}, api.ErrFull)
	failed(t, w, api.Act{Kind: api.ActSpoil}, api.ErrArg)
	failed(t, w, api.Act{Kind: api.ActSpoil, P: 32}, api.ErrRange)
}

// Example 10: a key of 32 leaves.
func TestSpent(t *testing.T) {
	w := world(t, noise(1, 100))
	for i := range 32 {
		if r := done(t, w, builds(api.ModeAB, 6, nil)); r.N != i {
			t.Error("P29.1: build", r)
		}
	}
	failed(t, w, builds(api.ModeAB, 6, nil), api.ErrFull)
}

// P29.1: bytes that are fed, in each mode; the base.
func TestFeed(t *testing.T) {
	old, new := noise(1, 300), append(noise(2, 300), noise(1, 200)...)
	for _, mode := range []uint8{api.ModeAB, api.ModePlace, api.ModeFull} {
		w := world(t, old)
		failed(t, w, feeds(0, 10), api.ErrRange)
		done(t, w, builds(mode, 6, new))
		done(t, w, builds(mode, 7, old))
		size := len(w.Package(0))
		for _, p := range []int{-1, 2, math.MinInt, math.MaxInt} {
			failed(t, w, feeds(p, 10), api.ErrRange)
		}
		for _, n := range []int{0, -1, math.MinInt} {
			if r := done(t, w, feeds(1, n)); r.N != 0 {
				t.Error("P29.1: fed none", r)
			}
		}
		if r := done(t, w, feeds(0, 1)); r.N != 1 || w.Do(feeds(1, 1)).Err != api.ErrState || w.Do(feeds(1, 0)).Err != api.ErrState {
			t.Error("P29.1: one byte of another package", r)
		}
		if r := done(t, w, feeds(0, 99)); r.N != 99 || r.Status.Want != 100 {
			t.Error("P29.1: feed", r)
		}
		failed(t, w, feeds(1, 100), api.ErrState)
		failed(t, w, feeds(1, 0), api.ErrState)
		failed(t, w, feeds(2, 0), api.ErrRange)
		done(t, w, of(api.ActBegin))
		if r := done(t, w, feeds(1, 100)); r.Status.Want != 100 {
			t.Error("P29.1: feed of another one", r)
		}
		done(t, w, of(api.ActBegin))
		if r := done(t, w, feeds(0, size-1)); r.N != size-1 || r.Status.State != api.Filling || !bytes.Equal(w.Base(), old) {
			t.Error("P29.1: feed", r)
		}
		if r := done(t, w, feeds(0, math.MaxInt)); r.N != 1 || r.Status.State != api.Ready || r.Status.Want != uint64(size) {
			t.Error("P29.1: feed to the end", r)
		}
		failed(t, w, feeds(0, 1), api.ErrState)
		if r := done(t, w, of(api.ActCommit)); r.Status.State != api.Idle || r.Status.Version != 6 || !bytes.Equal(w.Base(), new) {
			t.Error("P29.1: commit", r)
		}
		failed(t, w, feeds(1, 1), api.ErrState)
		done(t, w, of(api.ActBegin))
		want := api.ErrOld
		if mode == api.ModeFull {
			want = api.OK
		}
		if r := w.Do(feeds(1, math.MaxInt)); r.Err != want {
			t.Error("P29.1: of the image that was", r.Err)
		}
		w.Do(of(api.ActBegin))
		if r := done(t, w, of(api.ActImage)); !bytes.Equal(r.Data, new) {
			t.Error("P29.1: image")
		}
		if mode != api.ModeFull {
			done(t, w, builds(mode, 9, nil))
			done(t, w, feeds(2, math.MaxInt))
			done(t, w, of(api.ActCommit))
			if len(w.Base()) != 0 {
				t.Error("P29.1: of the base")
			}
		}
	}
}

// P29.1: errors of packages, and cancelling.
func TestErrors(t *testing.T) {
	w := world(t, noise(1, 300))
	done(t, w, builds(api.ModeAB, 6, noise(2, 500)))
	done(t, w, api.Act{Kind: api.ActSpoil, N: 20, Mode: 3})
	done(t, w, api.Act{Kind: api.ActSpoil, N: len(w.Package(0)) - 1, Mode: 128})
	done(t, w, builds(api.ModeAB, 5, noise(2, 500)))
	failed(t, w, feeds(1, math.MaxInt), api.ErrSign)
	if s := w.Do(of(api.ActStatus)).Status; s.Err != api.ErrSign || s.Want != 0 {
		t.Error("P29.1: status", s)
	}
	failed(t, w, feeds(1, 5), api.ErrSign)
	failed(t, w, feeds(2, 5), api.ErrState)
	failed(t, w, of(api.ActCancel), api.ErrState)
	done(t, w, of(api.ActBegin))
	failed(t, w, feeds(3, math.MaxInt), api.ErrVersion)
	done(t, w, of(api.ActBegin))
	failed(t, w, feeds(2, math.MaxInt), api.ErrHash)
	if s := w.Do(of(api.ActStatus)).Status; s.Done != 3 || s.State != api.Filling {
		t.Error("P29.1: status", s)
	}
	if r := done(t, w, of(api.ActCancel)); r.Status != (api.Status{Version: 5, Length: 300}) {
		t.Error("P29.1: cancel", r)
	}
	done(t, w, feeds(0, math.MaxInt))
	done(t, w, of(api.ActCommit))
}

// P29.1: fuses and falls; examples 6 and 8.
func TestFalls(t *testing.T) {
	old, new := noise(1, 600), noise(2, 700)
	w := world(t, old)
	done(t, w, builds(api.ModeAB, 6, new))
	done(t, w, feeds(0, math.MaxInt))
	full := w.Device().Writes()
	w = world(t, old)
	before := w.Device().Writes()
	done(t, w, builds(api.ModeAB, 6, new))
	// The begin's record is a write and two syncs, a chunk's is two writes and two syncs: behind the third chunk.
	done(t, w, api.Act{Kind: api.ActFuse, N: 3 + 3*4})
	failed(t, w, feeds(0, math.MaxInt), api.ErrDown)
	if full <= before {
		t.Error("P29.1: nothing is written")
	}
	for _, kind := range []uint8{api.ActBegin, api.ActCommit, api.ActCancel, api.ActImage} {
		failed(t, w, of(kind), api.ErrDown)
	}
	r := done(t, w, api.Act{Kind: api.ActFall, Data: []uint8{api.Torn, api.Torn}})
	if r.Status != (api.Status{State: api.Filling, Mode: api.ModeAB, Version: 5, Length: 600, Done: 3}) {
		t.Error("P29.1: behind the fall", r.Status)
	}
	if r := done(t, w, of(api.ActImage)); !bytes.Equal(r.Data, old) {
		t.Error("P29.3: image")
	}
	p := w.Package(0)
	done(t, w, feeds(0, 60))
	r = done(t, w, feeds(0, len(p)))
	if r.Status.State != api.Ready || r.Status.Want != uint64(len(p)) {
		t.Error("P29.1: fed again", r)
	}
	// A commit that is cut off, and is there.
	for _, pick := range []uint8{api.Old, api.New} {
		done(t, w, api.Act{Kind: api.ActFuse, N: 1})
		failed(t, w, of(api.ActCommit), api.ErrDown)
		r := done(t, w, api.Act{Kind: api.ActFall, Data: []uint8{pick}})
		want := old
		if pick == api.New {
			want = new
		}
		if (r.Status.State == api.Idle) != (pick == api.New) || !bytes.Equal(w.Base(), want) || !bytes.Equal(done(t, w, of(api.ActImage)).Data, want) {
			t.Error("P29.3: a commit that was cut off", pick, r.Status)
		}
	}
	// A fall of a device that is on; reading begins anew.
	done(t, w, builds(api.ModePlace, 7, old))
	done(t, w, feeds(1, 5))
	done(t, w, of(api.ActFall))
	done(t, w, feeds(0, 4))
	if w.Device().Offs() != 4 {
		t.Error("P29.1: offs", w.Device().Offs())
	}
	done(t, w, api.Act{Kind: api.ActFuse, N: math.MinInt})
	w.Device().Off()
	failed(t, w, feeds(0, 4), api.ErrDown)
	done(t, w, of(api.ActFall))
	done(t, w, feeds(1, math.MaxInt))
	done(t, w, of(api.ActCommit))
	if !bytes.Equal(w.Base(), old) {
		t.Error("P29.1: in place")
	}
}

// P29.1: where no installer can be opened, until one can.
func TestNone(t *testing.T) {
	old := noise(1, 300)
	w := world(t, old)
	done(t, w, builds(api.ModeAB, 6, old))
	m, _ := part.Layout(disk)
	j, _ := journal.Open(w.Device(), m)
	last := j.Last()
	if j.Write(api.Record{Length: 300, State: api.Aside, Mode: api.ModePlace, AsideSize: 999}) != api.OK {
		t.Fatal("a record")
	}
	none := func(a api.Act, want api.Errno) {
		t.Helper()
		if r := w.Do(a); !reflect.DeepEqual(r, api.Reply{Err: want}) {
			t.Error("P29.1: without an installer", a.Kind, r)
		}
	}
	none(of(api.ActFall), api.ErrRange)
	for _, kind := range []uint8{api.ActBegin, api.ActCommit, api.ActCancel, api.ActImage} {
		none(of(kind), api.ErrDown)
	}
	none(feeds(0, 5), api.ErrDown)
	none(feeds(9, 5), api.ErrRange)
	none(of(api.ActStatus), api.OK)
	none(of(api.ActFuse), api.OK)
	none(of(77), api.ErrKind)
	w.Device().Back(nil)
	if j.Write(last) != api.OK {
		t.Fatal("a record")
	}
	if r := done(t, w, of(api.ActFall)); r.Status.Length != 300 || !bytes.Equal(w.Base(), old) {
		t.Error("P29.1: opened again", r)
	}
	done(t, w, feeds(0, math.MaxInt))
}

// chance is an act by chance.
func chance(r *rand.Rand, w *updater.World) api.Act {
	a := api.Act{P: r.Intn(w.Packages() + 1), N: r.Intn(6000)}
	switch k := r.Intn(20); {
	case k < 2:
		a = builds(uint8(1+r.Intn(3)), uint64(r.Intn(30)), append(bytes.Clone(w.Base()[:len(w.Base())/2]), noise(r.Int63(), r.Intn(300))...))
		if len(a.Data) > 768 {
			a.Data = a.Data[:768]
		}
	case k < 10:
		a.Kind = api.ActFeed
	case k < 12:
		a.Kind = api.ActBegin
	case k < 14:
		a.Kind = api.ActCommit
	case k == 14:
		a.Kind = api.ActCancel
	case k == 15:
		a.Kind, a.N = api.ActFuse, r.Intn(40)
	case k == 16:
		a.Kind, a.Data = api.ActFall, []byte{byte(r.Intn(4)), byte(r.Intn(3)), byte(r.Intn(3))}
	case k == 17:
		a.Kind, a.Mode = api.ActSpoil, uint8(r.Intn(3))
	case k == 18:
		a.Kind = api.ActImage
	default:
		a.Kind = api.ActStatus
	}
	return a
}

// P29.2, P29.3: rows of acts.
func TestRows(t *testing.T) {
	commits := 0
	for seed := range int64(150) {
		r := rand.New(rand.NewSource(seed))
		old := noise(seed, 400)
		w, twin := world(t, old), world(t, old)
		for range 80 {
			a := chance(r, w)
			data := bytes.Clone(a.Data)
			x, y := w.Do(a), twin.Do(a)
			if !reflect.DeepEqual(x, y) || !bytes.Equal(w.Base(), twin.Base()) || w.Packages() != twin.Packages() || !bytes.Equal(a.Data, data) {
				t.Fatal("P29.2:", a.Kind, x, y)
			}
			if a.Kind == api.ActCommit && x.Err == api.OK {
				commits++
			}
			if x.Err != api.OK && (x.N != 0 || len(x.Data) != 0) {
				t.Fatal("P0.2:", a.Kind, x)
			}
			image := w.Do(of(api.ActImage))
			if image.Err != api.OK {
				if image.Err != api.ErrDown || w.Device().IsOn() {
					t.Fatal("P29.3: image", image.Err)
				}
				continue
			}
			s := image.Status
			if (s.State == api.Idle || s.Mode != api.ModePlace) && !bytes.Equal(image.Data, w.Base()) {
				t.Fatal("P29.3: the image isn't the base", s)
			}
			twin.Do(of(api.ActImage))
		}
	}
	if commits < 20 {
		t.Error("P29.3: too few commits", commits)
	}
}
