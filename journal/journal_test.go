package journal_test

import (
	"bytes"
	"crypto/sha256"
	"encoding/binary"
	"math"
	"math/rand"
	"testing"

	"drogher/api"
	"drogher/journal"
	"drogher/sector"
)

// chance is a record by chance.
func chance(r *rand.Rand) api.Record {
	n := func() int { return r.Intn(1 << (1 + r.Intn(31))) }
	x := api.Record{
		Seq: r.Uint64(), Active: uint8(r.Intn(2)), Version: r.Uint64(), Length: n(), State: uint8(r.Intn(4)), Mode: uint8(r.Intn(4)),
		NewVersion: r.Uint64(), NewLen: n(), Done: n(), At: r.Uint64(), Block: n(), AsideSize: n(),
	}
	r.Read(x.Manifest[:])
	return x
}

// writing is a record's writing, by the words of the chapter.
func writing(r api.Record) []byte {
	var b bytes.Buffer
	b.WriteString("JRNL")
	for _, x := range []any{
		r.Seq, r.Active, r.Version, uint32(r.Length), r.State, r.Mode, r.Manifest, r.NewVersion, uint32(r.NewLen), uint32(r.Done), r.At, uint32(r.Block), uint32(r.AsideSize),
	} {
		binary.Write(&b, binary.BigEndian, x)
	}
	d := sha256.Sum256(b.Bytes())
	return append(b.Bytes(), d[:8]...)
}

// P24.1: which records may be.
func TestMay(t *testing.T) {
	top := api.Record{Seq: math.MaxUint64, Active: 1, Length: 1<<31 - 1, State: 3, Mode: 3, NewLen: 1<<31 - 1, Done: 1<<31 - 1, Block: 1<<31 - 1, AsideSize: 1<<31 - 1}
	for _, r := range []api.Record{{}, top} {
		if b, e := journal.Put(r); !journal.May(r) || e != api.OK || !bytes.Equal(b, writing(r)) || len(b) != 99 {
			t.Error("P24.1: may", r, e)
		}
	}
	var bad []api.Record
	for _, n := range []int{-1, 1 << 31, math.MinInt, math.MaxInt} {
		bad = append(bad, api.Record{Length: n}, api.Record{NewLen: n}, api.Record{Done: n}, api.Record{Block: n}, api.Record{AsideSize: n})
	}
	bad = append(bad, api.Record{Active: 2}, api.Record{Active: 255}, api.Record{State: 4}, api.Record{State: 255}, api.Record{Mode: 4}, api.Record{Mode: 255})
	j, d := fresh(t)
	for i, r := range bad {
		if b, e := journal.Put(r); journal.May(r) || e != api.ErrForm || len(b) != 0 {
			t.Error("P24.1: may not be", i, e)
		}
		if e := j.Write(r); e != api.ErrForm || d.Writes() != 0 || j.Last() != (api.Record{}) {
			t.Error("P24.1: write of what may not be", i, e)
		}
		if r.Length|r.NewLen|r.Done|r.Block|r.AsideSize == 0 {
			if x, e := journal.Get(writing(r)); e != api.ErrForm || x != (api.Record{}) {
				t.Error("P24.1: got", i, e)
			}
		}
	}
	for _, at := range []int{21, 67, 71, 83, 87} {
		b := writing(api.Record{})
		b[at] = 128
		d := sha256.Sum256(b[:91])
		copy(b[91:], d[:])
		if x, e := journal.Get(b); e != api.ErrForm || x != (api.Record{}) {
			t.Error("P24.1: a great number", at, e)
		}
	}
}

// P24.1: there and back, and which error goes ahead.
func TestGet(t *testing.T) {
	r := rand.New(rand.NewSource(24))
	for range 300 {
		x := chance(r)
		b, e := journal.Put(x)
		if e != api.OK || !bytes.Equal(b, writing(x)) {
			t.Fatal("P24.1: put", e)
		}
		if got, e := journal.Get(append(b, 1, 2, 3)); e != api.OK || got != x {
			t.Fatal("P24.1: get", got, x, e)
		}
		c := bytes.Clone(b)
		at := r.Intn(99)
		c[at] ^= 1 << r.Intn(8)
		want := api.ErrHash
		if at < 4 {
			want = api.ErrForm
		}
		if got, e := journal.Get(c); e != want || got != (api.Record{}) {
			t.Fatal("P24.1: spoilt", at, e)
		}
		if got, e := journal.Get(c[:98]); e != api.ErrShort || got != (api.Record{}) {
			t.Fatal("P24.1: short", e)
		}
	}
	if _, e := journal.Get(nil); e != api.ErrShort {
		t.Error("P24.1: nothing", e)
	}
}

var regions = api.Map{Journal: [2]api.Region{{First: 1, Count: 1}, {First: 3, Count: 1}}}

func fresh(t *testing.T) (*journal.Journal, *sector.Device) {
	d, _ := sector.New(128, 5)
	j, e := journal.Open(d, regions)
	if e != api.OK || j.Last() != (api.Record{}) {
		t.Fatal("P24.1: open", e)
	}
	return j, d
}

// P24.1: where records stand.
func TestWrite(t *testing.T) {
	r := rand.New(rand.NewSource(25))
	j, d := fresh(t)
	before := uint64(0)
	for k := range uint64(6) {
		d.Write(0, bytes.Repeat([]byte{byte(k)}, 128))
		x := chance(r)
		if e := j.Write(x); e != api.OK || d.Waits() != 0 {
			t.Fatal("P24.1: write", e)
		}
		x.Seq = k + 1
		if j.Last() != x || d.Writes() != before+2 {
			t.Error("P24.1: last", j.Last(), d.Writes())
		}
		before = d.Writes()
		b, _ := d.Read(1 + 2*int(x.Seq%2))
		if !bytes.Equal(b, append(writing(x), make([]byte, 29)...)) {
			t.Error("P24.1: where it stands", k)
		}
		again, e := journal.Open(d, regions)
		if e != api.OK || again.Last() != x {
			t.Error("P24.1: opened again", again.Last(), e)
		}
	}
	for _, i := range []int{2, 4} {
		if b, _ := d.Read(i); !bytes.Equal(b, make([]byte, 128)) {
			t.Error("P24.1: another sector", i)
		}
	}
}

// P24.1: what counts as a record.
func TestOpen(t *testing.T) {
	put := func(d *sector.Device, i int, r api.Record) {
		d.Write(i, append(writing(r), make([]byte, 29)...))
	}
	_, d := fresh(t)
	put(d, 1, api.Record{Length: 5}) // Seq 0
	if j, e := journal.Open(d, regions); e != api.OK || j.Last().Length != 5 {
		t.Error("P24.1: Seq 0", e)
	}
	put(d, 3, api.Record{Seq: 2, Length: 6}) // an even one in the second region
	if j, _ := journal.Open(d, regions); j.Last().Length != 5 {
		t.Error("P24.1: of another region")
	}
	put(d, 3, api.Record{Seq: 7, Length: 7})
	put(d, 1, api.Record{Seq: 9, Length: 8})
	if j, _ := journal.Open(d, regions); j.Last().Length != 7 {
		t.Error("P24.1: odd in the first region")
	}
	put(d, 1, api.Record{Seq: 8, Length: 9})
	if j, _ := journal.Open(d, regions); j.Last().Length != 9 {
		t.Error("P24.1: the greater one")
	}
	d.Back([]uint8{api.Torn, api.New})
	if j, e := journal.Open(d, regions); e != api.OK || j.Last().Length != 7 {
		t.Error("P24.1: a torn one", e)
	}
	put(d, 3, api.Record{})
	d.Sync()
	if j, e := journal.Open(d, regions); e != api.OK || j.Last() != (api.Record{}) {
		t.Error("P24.1: none", e)
	}
	for i, c := range []struct {
		m    api.Map
		want api.Errno
	}{
		{api.Map{}, api.ErrArg}, {api.Map{Journal: [2]api.Region{{First: 4, Count: 1}, {First: 5, Count: 1}}}, api.ErrArg}, {api.Map{Journal: [2]api.Region{{First: -1, Count: 1}, {First: 0, Count: 1}}}, api.ErrArg},
		{api.Map{Journal: [2]api.Region{{First: 0, Count: 1}, {First: 4, Count: 1}}}, api.OK},
	} {
		if j, e := journal.Open(d, c.m); e != c.want || (j == nil) != (e != api.OK) {
			t.Error("P24.1: open", i, e)
		}
	}
	d.Off()
	if _, e := journal.Open(d, api.Map{}); e != api.ErrArg {
		t.Error("P24.1: open", e)
	}
	if j, e := journal.Open(d, regions); e != api.ErrDown || j != nil {
		t.Error("P24.1: off", e)
	}
	if j, e := journal.Open(nil, regions); e != api.ErrArg || j != nil {
		t.Error("P24.1: no device", e)
	}
	var none *journal.Journal
	if none.Write(api.Record{}) != api.ErrArg || none.Last() != (api.Record{}) {
		t.Error("P24.1: nil")
	}
}

// P24.2: whatever falls while a record is written.
func TestFalls(t *testing.T) {
	r := rand.New(rand.NewSource(26))
	for first := range 4 {
		for fuse := range 4 {
			for pick := range 27 {
				j, d := fresh(t)
				for range first {
					j.Write(chance(r))
				}
				last := j.Last()
				d.Write(0, make([]byte, 128))
				next := chance(r)
				d.Fuse(fuse)
				e := j.Write(next)
				next.Seq = last.Seq + 1
				if (e == api.OK) != (fuse == 3) || e != api.OK && (e != api.ErrDown || j.Last() != last) {
					t.Fatal("P24.1: by a fuse", fuse, e)
				}
				d.Back([]uint8{uint8(pick % 3), uint8(pick / 3 % 3), uint8(pick / 9)})
				again, e := journal.Open(d, regions)
				if e != api.OK || again.Last() != last && again.Last() != next || fuse == 3 && again.Last() != next {
					t.Fatal("P24.2:", first, fuse, pick, e)
				}
				third := chance(r)
				if e := again.Write(third); e != api.OK {
					t.Fatal("P24.2: it goes on", e)
				}
				third.Seq = again.Last().Seq
				if end, _ := journal.Open(d, regions); end.Last() != third {
					t.Fatal("P24.2: it goes on")
				}
			}
		}
	}
}
