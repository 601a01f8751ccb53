package sector_test

import (
	"bytes"
	"math"
	"math/rand"
	"testing"

	"drogher/api"
	"drogher/sector"
)

func fresh(t *testing.T, count int) *sector.Device {
	d, e := sector.New(128, count)
	if e != api.OK || d == nil {
		t.Fatal("P6.1: new", e)
	}
	return d
}

func full(x byte) []byte { return bytes.Repeat([]byte{x}, 128) }

func want(t *testing.T, d *sector.Device, i int, x byte) {
	t.Helper()
	if b, e := d.Read(i); e != api.OK || !bytes.Equal(b, full(x)) {
		t.Error("P6.1: sector", i, "isn't of", x, b[:min(len(b), 1)], e)
	}
}

func unread(t *testing.T, d *sector.Device, i int) {
	t.Helper()
	if b, e := d.Read(i); e != api.ErrUnread || len(b) != 0 {
		t.Error("P6.1: sector", i, "can be read", e)
	}
}

// P6.1: what may not be made.
func TestNew(t *testing.T) {
	for _, c := range []struct {
		size, count int
		want        api.Errno
	}{
		{127, 1, api.ErrArg}, {4097, 1, api.ErrArg}, {128, 0, api.ErrArg}, {128, 1<<20 + 1, api.ErrArg}, {-1, -1, api.ErrArg},
		{math.MinInt, math.MaxInt, api.ErrArg}, {128, 1, api.OK}, {4096, 1 << 20, api.OK}, {129, 3, api.OK},
	} {
		d, e := sector.New(c.size, c.count)
		if e != c.want || (d == nil) != (e != api.OK) {
			t.Error("P6.1: new", c, e)
		}
		if e == api.OK && (d.Size() != c.size || d.Count() != c.count || !d.IsOn() || d.Offs() != 0 || d.Waits() != 0 || d.Writes() != 0) {
			t.Error("P6.1: new", c)
		}
	}
}

// P6.1: reading and writing, and which error goes ahead.
func TestReadWrite(t *testing.T) {
	d := fresh(t, 3)
	want(t, d, 2, 0)
	if e := d.Write(1, full(7)); e != api.OK || d.Waits() != 1 || d.Writes() != 1 {
		t.Error("P6.1: write", e)
	}
	want(t, d, 1, 7)
	want(t, d, 0, 0)
	d.Write(1, full(8))
	want(t, d, 1, 8)
	if d.Waits() != 1 || d.Writes() != 2 {
		t.Error("P6.1: waits")
	}
	for _, i := range []int{-1, 3, math.MinInt, math.MaxInt} {
		if _, e := d.Read(i); e != api.ErrRange {
			t.Error("P6.1: read", i, e)
		}
		if e := d.Write(i, nil); e != api.ErrRange {
			t.Error("P6.1: write", i, e)
		}
	}
	for _, n := range []int{0, 127, 129} {
		if e := d.Write(0, make([]byte, n)); e != api.ErrForm {
			t.Error("P6.1: write of bytes", n, e)
		}
	}
	if e := d.Sync(); e != api.OK || d.Waits() != 0 || d.Writes() != 2 {
		t.Error("P6.1: sync", e)
	}
	d.Off()
	d.Off()
	if d.IsOn() || d.Offs() != 1 {
		t.Error("P6.1: off")
	}
	if _, e := d.Read(9); e != api.ErrDown || d.Write(9, nil) != api.ErrDown || d.Sync() != api.ErrDown {
		t.Error("P6.1: off")
	}
	d.Back(nil)
	want(t, d, 1, 8)
	if !d.IsOn() || d.Offs() != 1 {
		t.Error("P6.1: back")
	}
	d.Back(nil)
	if d.Offs() != 2 {
		t.Error("P6.1: back of a device that is on")
	}
}

// P6.1, P6.3: what is picked.
func TestBack(t *testing.T) {
	d := fresh(t, 8)
	for i := range 8 {
		d.Write(i, full(1))
	}
	d.Sync()
	for _, i := range []int{6, 5, 3, 2, 1, 0} {
		d.Write(i, full(2))
	}
	d.Back([]uint8{api.New, api.Torn, api.Old, 77, api.New})
	want(t, d, 0, 2)
	unread(t, d, 1)
	want(t, d, 2, 1)
	want(t, d, 3, 1)
	want(t, d, 4, 1)
	want(t, d, 5, 2)
	want(t, d, 6, 1)
	if d.Waits() != 0 {
		t.Error("P6.1: something waits")
	}
	// A torn sector is read while it waits, is torn again by Old, and whole behind a Sync.
	d.Write(1, full(3))
	want(t, d, 1, 3)
	d.Back([]uint8{api.Old})
	unread(t, d, 1)
	d.Write(1, full(4))
	d.Sync()
	want(t, d, 1, 4)
	d.Back([]uint8{api.Torn})
	want(t, d, 1, 4)
}

// P6.1: the examples.
func TestExamples(t *testing.T) {
	d := fresh(t, 1)
	d.Write(0, full(5))
	d.Back([]uint8{api.New})
	want(t, d, 0, 5)
	d.Write(0, full(6))
	d.Back([]uint8{api.Torn})
	unread(t, d, 0)
}

// P6.1: a fuse.
func TestFuse(t *testing.T) {
	d := fresh(t, 4)
	d.Fuse(3)
	if d.Write(0, full(1)) != api.OK || d.Write(9, full(1)) != api.ErrRange || d.Write(0, nil) != api.ErrForm || d.Sync() != api.OK {
		t.Error("P6.1: ahead of the fuse")
	}
	if d.Write(1, full(2)) != api.OK || !d.IsOn() {
		t.Error("P6.1: the last one")
	}
	if e := d.Write(2, full(3)); e != api.ErrDown || d.IsOn() || d.Waits() != 2 || d.Offs() != 1 || d.Writes() != 2 {
		t.Error("P6.1: the fuse", e, d.Waits(), d.Writes())
	}
	d.Back([]uint8{api.Old, api.New})
	want(t, d, 0, 1)
	want(t, d, 1, 0)
	want(t, d, 2, 3)
	for range 9 {
		if d.Write(3, full(4)) != api.OK || d.Sync() != api.OK {
			t.Error("P6.1: a fuse is there yet")
		}
	}
	d.Fuse(-5)
	d.Fuse(1)
	d.Write(0, full(9))
	if e := d.Sync(); e != api.ErrDown || d.Waits() != 1 {
		t.Error("P6.1: sync by the fuse", e)
	}
	d.Fuse(0)
	d.Back([]uint8{api.New})
	want(t, d, 0, 9)
	if d.Sync() != api.OK {
		t.Error("P6.1: a fuse that was set while it was off")
	}
	d.Fuse(math.MinInt)
	if d.Sync() != api.ErrDown || d.Offs() != 3 {
		t.Error("P6.1: a fuse below 0", d.Offs())
	}
}

// P6.2, P6.3: rows of calls, against what may be.
func TestRows(t *testing.T) {
	r := rand.New(rand.NewSource(6))
	for range 200 {
		d := fresh(t, 6)
		kept := make([]int, 6) // -1: torn
		newest := map[int]int{}
		for range 60 {
			i, x := r.Intn(6), 1+r.Intn(250)
			switch r.Intn(6) {
			case 0:
				if d.Sync() == api.OK {
					for i, x := range newest {
						kept[i] = x
					}
					clear(newest)
				}
			case 1:
				picks := make([]uint8, r.Intn(7))
				for k := range picks {
					picks[k] = uint8(r.Intn(4))
				}
				d.Back(picks)
				k := 0
				for i := range kept {
					x, ok := newest[i]
					if !ok {
						continue
					}
					if k < len(picks) && picks[k] == api.New {
						kept[i] = x
					}
					if k < len(picks) && picks[k] == api.Torn {
						kept[i] = -1
					}
					k++
				}
				clear(newest)
			default:
				if d.Write(i, full(byte(x))) == api.OK {
					newest[i] = x
				}
			}
			for i := range kept {
				x, ok := newest[i]
				if !ok {
					x = kept[i]
				}
				if x < 0 {
					unread(t, d, i)
				} else {
					want(t, d, i, byte(x))
				}
			}
			if d.Waits() != len(newest) {
				t.Fatal("P6.1: waits", d.Waits(), len(newest))
			}
		}
	}
}

// P0.1: a nil device.
func TestNil(t *testing.T) {
	var d *sector.Device
	d.Fuse(3)
	d.Off()
	d.Back([]uint8{1})
	_, e := d.Read(0)
	if e != api.ErrDown || d.Write(0, nil) != api.ErrDown || d.Sync() != api.ErrDown || d.IsOn() ||
		d.Size() != 0 || d.Count() != 0 || d.Offs() != 0 || d.Waits() != 0 || d.Writes() != 0 {
		t.Error("P6.1: nil")
	}
}

// P0.3: bytes that are handed in or answered are of their own.
func TestMemory(t *testing.T) {
	d := fresh(t, 2)
	b := full(1)
	d.Write(0, b)
	clear(b)
	got, _ := d.Read(0)
	clear(got)
	want(t, d, 0, 1)
	d.Sync()
	got, _ = d.Read(0)
	clear(got)
	want(t, d, 0, 1)
	zeros, _ := d.Read(1)
	zeros[0] = 9
	want(t, d, 1, 0)
	picks := []uint8{api.New}
	d.Write(1, full(3))
	d.Back(picks)
	if picks[0] != api.New {
		t.Error("P0.3: picks")
	}
}
