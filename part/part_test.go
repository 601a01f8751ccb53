package part_test

import (
	"bytes"
	"math"
	"math/rand"
	"testing"

	"drogher/api"
	"drogher/part"
	"drogher/sector"
)

// P7.1: which layouts may be, and their maps.
func TestLayout(t *testing.T) {
	for _, c := range []struct {
		d    api.Disk
		want bool
	}{
		{api.Disk{Sector: 128, Block: 256, Slot: 3}, true}, {api.Disk{Sector: 128, Block: 128, Slot: 1}, true},
		{api.Disk{Sector: 4096, Block: 4096, Slot: 4096}, true}, {api.Disk{Sector: 128, Block: 4096, Slot: 4096}, true},
		{api.Disk{Sector: 129, Block: 258, Slot: 2}, true}, {api.Disk{Sector: 300, Block: 900, Slot: 2}, true},
		{api.Disk{}, false}, {api.Disk{Sector: 127, Block: 254, Slot: 3}, false}, {api.Disk{Sector: 4097, Block: 4097, Slot: 3}, false},
		{api.Disk{Sector: 128, Block: 200, Slot: 3}, false}, {api.Disk{Sector: 256, Block: 128, Slot: 3}, false},
		{api.Disk{Sector: 128, Block: 4224, Slot: 3}, false}, {api.Disk{Sector: 128, Block: 0, Slot: 3}, false}, {api.Disk{Sector: 128, Block: -128, Slot: 3}, false},
		{api.Disk{Sector: 128, Block: 256}, false}, {api.Disk{Sector: 128, Block: 256, Slot: 4097}, false}, {api.Disk{Sector: 128, Block: 256, Slot: -1}, false},
		{api.Disk{Sector: 0, Block: 256, Slot: 1}, false}, {api.Disk{Sector: math.MinInt, Block: math.MinInt, Slot: math.MaxInt}, false},
		{api.Disk{Sector: math.MaxInt, Block: math.MaxInt, Slot: math.MaxInt}, false},
	} {
		m, e := part.Layout(c.d)
		if part.May(c.d) != c.want || (e == api.OK) != c.want || e != api.OK && (e != api.ErrArg || m != api.Map{}) {
			t.Error("P7.1:", c.d, e)
		}
		if c.want {
			whole(t, c.d, m)
		}
	}
	m, _ := part.Layout(api.Disk{Sector: 128, Block: 256, Slot: 3})
	if m.Slots[0].First != 4 || m.Slots[1].First != 10 || m.All != 16 {
		t.Error("P7.1: the example", m)
	}
}

// whole tells off, if a map's regions aren't one behind the other, of the right sizes (P7.3).
func whole(t *testing.T, c api.Disk, m api.Map) {
	n := c.Block / c.Sector
	at := 0
	for i, r := range []api.Region{m.Journal[0], m.Journal[1], m.Aside, m.Slots[0], m.Slots[1]} {
		count := []int{1, 1, n, n * c.Slot, n * c.Slot}[i]
		if r.First != at || r.Count != count {
			t.Error("P7.3:", c, i, r)
		}
		at += r.Count
	}
	if m.All != at {
		t.Error("P7.1: all", c, m.All)
	}
}

func device(t *testing.T) *sector.Device {
	d, e := sector.New(128, 10)
	if e != api.OK {
		t.Fatal(e)
	}
	return d
}

// P7.1: which regions are on a device.
func TestOpen(t *testing.T) {
	d := device(t)
	for _, c := range []struct {
		r    api.Region
		want api.Errno
	}{
		{api.Region{First: 0, Count: 10}, api.OK}, {api.Region{First: 9, Count: 1}, api.OK}, {api.Region{First: 10, Count: 1}, api.ErrArg},
		{api.Region{First: 0, Count: 11}, api.ErrArg}, {api.Region{First: -1, Count: 2}, api.ErrArg}, {api.Region{First: 0}, api.ErrArg},
		{api.Region{First: 0, Count: -1}, api.ErrArg}, {api.Region{First: math.MaxInt, Count: math.MaxInt}, api.ErrArg},
		{api.Region{First: 1, Count: math.MinInt}, api.ErrArg}, {api.Region{First: math.MaxInt, Count: 1}, api.ErrArg},
	} {
		p, e := part.Open(d, c.r)
		if e != c.want || (p == nil) != (e != api.OK) || e == api.OK && p.Size() != 128*c.r.Count {
			t.Error("P7.1: open", c.r, e)
		}
	}
	if p, e := part.Open(nil, api.Region{Count: 1}); e != api.ErrArg || p != nil {
		t.Error("P7.1: of no device", e)
	}
}

// P7.1: which error goes ahead.
func TestErrors(t *testing.T) {
	d := device(t)
	p, _ := part.Open(d, api.Region{First: 2, Count: 3})
	for _, c := range []struct {
		at, n int
		want  api.Errno
	}{
		{0, 384, api.OK}, {384, 0, api.OK}, {0, 0, api.OK}, {383, 1, api.OK},
		{385, 0, api.ErrRange}, {-1, 0, api.ErrRange}, {0, -1, api.ErrRange}, {0, 385, api.ErrRange}, {383, 2, api.ErrRange},
		{math.MaxInt, math.MaxInt, api.ErrRange}, {1, math.MaxInt, api.ErrRange}, {math.MinInt, 1, api.ErrRange}, {1, math.MinInt, api.ErrRange},
	} {
		if b, e := p.Read(c.at, c.n); e != c.want || e != api.OK && len(b) != 0 || e == api.OK && len(b) != c.n {
			t.Error("P7.1: read", c, e)
		}
	}
	for _, c := range []struct {
		at, n int
		want  api.Errno
	}{
		{0, 384, api.OK}, {256, 1, api.OK}, {384, 0, api.OK}, {1, 1, api.ErrArg}, {-1, 1, api.ErrArg}, {385, 999, api.ErrArg}, {math.MaxInt, 1, api.ErrArg},
		{-128, 1, api.ErrRange}, {512, 0, api.ErrRange}, {384, 1, api.ErrRange}, {0, 385, api.ErrRange}, {256, 129, api.ErrRange}, {math.MinInt, 1, api.ErrRange},
	} {
		if e := p.Write(c.at, make([]byte, c.n)); e != c.want {
			t.Error("P7.1: write", c, e)
		}
	}
	d.Off()
	if b, e := p.Read(5, 0); e != api.OK || len(b) != 0 || p.Write(128, nil) != api.OK {
		t.Error("P7.1: no bytes of a device that is off", e)
	}
	if b, e := p.Read(5, 1); e != api.ErrDown || len(b) != 0 || p.Write(0, []byte{1}) != api.ErrDown {
		t.Error("P7.1: off", e)
	}
	var none *part.Part
	if _, e := none.Read(0, 0); e != api.ErrArg || none.Write(0, nil) != api.ErrArg || none.Size() != 0 {
		t.Error("P7.1: nil")
	}
}

// P7.1: the first error of the device; what stands ahead of it is written.
func TestDeviceErrors(t *testing.T) {
	d := device(t)
	p, _ := part.Open(d, api.Region{First: 2, Count: 3})
	d.Write(3, make([]byte, 128))
	d.Back([]uint8{api.Torn})
	if _, e := p.Read(0, 128); e != api.OK {
		t.Error("P7.1: ahead of the torn one", e)
	}
	if b, e := p.Read(0, 129); e != api.ErrUnread || len(b) != 0 {
		t.Error("P7.1: torn", e)
	}
	d.Fuse(1)
	if e := p.Write(0, bytes.Repeat([]byte{5}, 300)); e != api.ErrDown {
		t.Error("P7.1: fuse", e)
	}
	d.Back([]uint8{api.New, api.New, api.New})
	if b, e := p.Read(0, 384); e != api.OK || !bytes.Equal(b, append(bytes.Repeat([]byte{5}, 256), make([]byte, 128)...)) {
		t.Error("P7.1: what was written ahead of the fuse", e)
	}
}

// P7.2: against bytes in memory.
func TestReadsWhatWasWritten(t *testing.T) {
	r := rand.New(rand.NewSource(7))
	d := device(t)
	for i := range 10 {
		d.Write(i, bytes.Repeat([]byte{byte(100 + i)}, 128))
	}
	p, _ := part.Open(d, api.Region{First: 2, Count: 7})
	all, _ := p.Read(0, p.Size())
	for range 300 {
		at := 128 * r.Intn(7)
		b := make([]byte, r.Intn(p.Size()-at+1))
		r.Read(b)
		before := bytes.Clone(b)
		if e := p.Write(at, b); e != api.OK || !bytes.Equal(b, before) {
			t.Fatal("P7.2:", e)
		}
		end := (len(b) + 127) / 128 * 128
		clear(all[at : at+end])
		copy(all[at:], b)
		clear(b)
		from := r.Intn(p.Size() + 1)
		n := r.Intn(p.Size() - from + 1)
		got, e := p.Read(from, n)
		if e != api.OK || !bytes.Equal(got, all[from:from+n]) {
			t.Fatal("P7.2: read", from, n, e)
		}
		clear(got)
	}
	for _, i := range []int{0, 1, 9} {
		if b, _ := d.Read(i); !bytes.Equal(b, bytes.Repeat([]byte{byte(100 + i)}, 128)) {
			t.Error("P7.2: another sector", i)
		}
	}
}
