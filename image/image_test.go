package image_test

import (
	"bytes"
	"crypto/sha256"
	"math"
	"math/rand"
	"testing"

	"drogher/api"
	"drogher/image"
	"drogher/plan"
	"drogher/sector"
)

var disk = api.Disk{Sector: 128, Block: 256, Slot: 3} // aside: sectors 2 and 3; slots: from 4, from 10

func fresh(t *testing.T) (*image.Image, *sector.Device) {
	d, _ := sector.New(128, 17)
	x, e := image.Open(d, disk)
	if e != api.OK || x == nil {
		t.Fatal("P25.1: open", e)
	}
	return x, d
}

// P25.1: what may be opened.
func TestOpen(t *testing.T) {
	for i, c := range []struct {
		size, count int
		c           api.Disk
		want        api.Errno
	}{
		{128, 16, disk, api.OK}, {128, 17, disk, api.OK}, {128, 15, disk, api.ErrArg}, {256, 99, disk, api.ErrArg}, {128, 99, api.Disk{}, api.ErrArg},
		{128, 99, api.Disk{Sector: 128, Block: 200, Slot: 3}, api.ErrArg}, {128, 4, api.Disk{Sector: 128, Block: 128, Slot: math.MaxInt}, api.ErrArg},
	} {
		d, _ := sector.New(c.size, c.count)
		if x, e := image.Open(d, c.c); e != c.want || (x == nil) != (e != api.OK) {
			t.Error("P25.1: open", i, e)
		}
	}
	if x, e := image.Open(nil, disk); e != api.ErrArg || x != nil {
		t.Error("P25.1: no device", e)
	}
	_, d := fresh(t)
	d.Off()
	if x, e := image.Open(d, disk); e != api.OK || x.Cap() != 768 {
		t.Error("P25.1: a device that is off", e)
	}
	small := api.Disk{Sector: 128, Block: 128, Slot: 3}
	if x, _ := image.Open(d, small); x.Cap() != 384 {
		t.Error("P25.1: the example")
	}
}

// P25.1, P25.2: what is put is seen, in its slot alone.
func TestPut(t *testing.T) {
	r := rand.New(rand.NewSource(25))
	x, d := fresh(t)
	var slots [2][]byte
	slots[0], slots[1] = make([]byte, 768), make([]byte, 768)
	aside := make([]byte, 256)
	for range 400 {
		b := make([]byte, 1+r.Intn(256))
		r.Read(b)
		if r.Intn(4) == 0 {
			if e := x.Keep(b); e != api.OK {
				t.Fatal("P25.1: keep", e)
			}
			clear(aside[:(len(b)+127)/128*128])
			copy(aside, b)
		} else {
			slot, block := uint8(r.Intn(3)), r.Intn(3)
			if e := x.Put(slot, block, b); e != api.OK {
				t.Fatal("P25.1: put", e)
			}
			s := slots[min(slot, 1)][block*256:]
			clear(s[:(len(b)+127)/128*128])
			copy(s, b)
		}
		clear(b)
		for i, slot := range []uint8{0, 1, 2, 255} {
			want := slots[min(i, 1)]
			if got, e := x.View(slot, 768).Range(0, 768); e != api.OK || !bytes.Equal(got, want) {
				t.Fatal("P25.2: slot", slot, e)
			}
			n := r.Intn(769)
			if sum, e := x.Sum(slot, n); e != api.OK || sum != api.Digest(sha256.Sum256(want[:n])) {
				t.Fatal("P25.1: sum", slot, n, e)
			}
		}
		n := r.Intn(257)
		if got, e := x.Kept(n); e != api.OK || !bytes.Equal(got, aside[:n]) {
			t.Fatal("P25.2: aside", n, e)
		}
	}
	if d.Waits() == 0 {
		t.Error("P25.1: it is synced")
	}
	for _, i := range []int{0, 1, 16} {
		if b, _ := d.Read(i); !bytes.Equal(b, make([]byte, 128)) {
			t.Error("P25.2: another sector", i)
		}
	}
}

// P25.1: views.
func TestView(t *testing.T) {
	x, _ := fresh(t)
	x.Put(0, 0, []byte("hello"))
	for i, c := range []struct {
		n, from, many int
		want          string
		e             api.Errno
	}{
		{5, 0, 5, "hello", api.OK}, {5, 1, 2, "el", api.OK}, {5, 5, 0, "", api.OK}, {5, 6, 0, "", api.ErrRange}, {5, 0, 6, "", api.ErrRange}, {5, 1, 5, "", api.ErrRange}, {5, 3, 3, "", api.ErrRange}, {5, -1, 1, "", api.ErrRange}, {5, 0, -1, "", api.ErrRange},
		{0, 0, 0, "", api.OK}, {0, 0, 1, "", api.ErrRange}, {-1, 0, 0, "", api.OK}, {-1, 0, 1, "", api.ErrRange}, {math.MinInt, 0, 1, "", api.ErrRange}, {math.MaxInt, 768, 0, "", api.OK}, {math.MaxInt, 767, 2, "", api.ErrRange},
		{math.MaxInt, math.MaxInt, math.MaxInt, "", api.ErrRange}, {5, math.MinInt, math.MinInt, "", api.ErrRange},
	} {
		if b, e := x.View(0, c.n).Range(c.from, c.many); e != c.e || string(b) != c.want {
			t.Error("P25.1: view", i, b, e)
		}
	}
	if b, e := plan.Eval([]api.Step{{Kind: api.Copy, From: 1, Len: 3}}, x.View(0, 5), 3); e != api.OK || string(b) != "ell" {
		t.Error("P25.1: a view is a source", e)
	}
}

// P25.1: which error goes ahead.
func TestErrors(t *testing.T) {
	x, d := fresh(t)
	long := make([]byte, 257)
	for i, c := range []struct {
		block int
		b     []byte
		want  api.Errno
	}{
		{-1, nil, api.ErrRange}, {3, nil, api.ErrRange}, {math.MaxInt, long, api.ErrRange}, {math.MinInt, []byte{1}, api.ErrRange}, {0, nil, api.ErrForm}, {2, long, api.ErrForm}, {2, long[:256], api.OK}, {0, long[:1], api.OK},
	} {
		if e := x.Put(0, c.block, c.b); e != c.want {
			t.Error("P25.1: put", i, e)
		}
	}
	if x.Keep(nil) != api.ErrForm || x.Keep(long) != api.ErrForm || x.Keep(long[:256]) != api.OK {
		t.Error("P25.1: keep")
	}
	for _, n := range []int{-1, 257, math.MinInt, math.MaxInt} {
		if b, e := x.Kept(n); e != api.ErrRange || len(b) != 0 {
			t.Error("P25.1: kept", n, e)
		}
	}
	for _, n := range []int{-1, 769, math.MinInt, math.MaxInt} {
		if s, e := x.Sum(0, n); e != api.ErrRange || s != (api.Digest{}) {
			t.Error("P25.1: sum", n, e)
		}
	}
	d.Sync()
	d.Write(5, make([]byte, 128))
	d.Back([]uint8{api.Torn})
	if _, e := x.Sum(0, 128); e != api.OK {
		t.Error("P25.1: ahead of the torn one", e)
	}
	s, e := x.Sum(0, 129)
	b, f := x.View(0, 768).Range(0, 768)
	if e != api.ErrUnread || f != api.ErrUnread || s != (api.Digest{}) || len(b) != 0 {
		t.Error("P25.1: torn", e, f)
	}
	d.Off()
	if _, e := x.Sum(1, 1); e != api.ErrDown || x.Put(0, 0, []byte{1}) != api.ErrDown || x.Keep([]byte{1}) != api.ErrDown {
		t.Error("P25.1: off", e)
	}
	if _, e := x.Kept(1); e != api.ErrDown {
		t.Error("P25.1: off", e)
	}
	if s, e := x.Sum(1, 0); e != api.OK || s != api.Digest(sha256.Sum256(nil)) {
		t.Error("P25.1: the sum of nothing", e)
	}
}

// P0.1: nil.
func TestNil(t *testing.T) {
	var x *image.Image
	_, e := x.Sum(0, 0)
	_, f := x.Kept(0)
	if e != api.ErrArg || f != api.ErrArg || x.Put(0, 0, []byte{1}) != api.ErrArg || x.Keep([]byte{1}) != api.ErrArg || x.Cap() != 0 {
		t.Error("P25.1: a nil image", e, f)
	}
	var v *image.View
	if _, e := v.Range(0, 0); e != api.ErrRange {
		t.Error("P25.1: a nil view", e)
	}
	if _, e := x.View(0, 5).Range(0, 0); e != api.ErrRange {
		t.Error("P25.1: a nil image's view", e)
	}
}
