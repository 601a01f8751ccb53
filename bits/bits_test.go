package bits_test

import (
	"bytes"
	"math"
	"math/rand"
	"testing"

	"drogher/api"
	"drogher/bits"
)

// row is bits, one by one, as the chapter says how they stand.
type row []int

func (l *row) put(x uint32, n int) {
	for i := range n {
		*l = append(*l, int(x>>i&1))
	}
}

func (l *row) code(x uint32, n int) {
	for i := n - 1; i >= 0; i-- {
		*l = append(*l, int(x>>i&1))
	}
}

func (l *row) align() {
	for len(*l)%8 > 0 {
		*l = append(*l, 0)
	}
}

func (l row) bytes() []byte {
	b := make([]byte, (len(l)+7)/8)
	for i, x := range l {
		b[i/8] |= byte(x) << (i % 8)
	}
	return b
}

// P8.1: the example, and the lengths that count as others.
func TestWriter(t *testing.T) {
	w := bits.NewWriter()
	if w.Len() != 0 || len(w.Bytes()) != 0 {
		t.Error("P8.1: a new one")
	}
	w.Align()
	w.Put(1, 1)
	w.Put(2, 2)
	w.Code(1, 2)
	if w.Len() != 5 || !bytes.Equal(w.Bytes(), []byte{0x15}) {
		t.Error("P8.1: the example", w.Bytes())
	}
	for _, n := range []int{0, -1, math.MinInt} {
		w.Put(math.MaxUint32, n)
		w.Code(math.MaxUint32, n)
	}
	if w.Len() != 5 {
		t.Error("P8.1: no bits")
	}
	w.Align()
	w.Align()
	if w.Len() != 8 {
		t.Error("P8.1: align", w.Len())
	}
	w.Put(0x01020304, 33)
	w.Code(0x01020304, math.MaxInt)
	if !bytes.Equal(w.Bytes(), []byte{0x15, 4, 3, 2, 1, 0x80, 0x40, 0xc0, 0x20}) {
		t.Error("P8.1: more than 32 bits", w.Bytes())
	}
	w.Put(0xfffe, 1)
	w.Code(0xfffd, 2)
	w.Raw([]byte{9, 8})
	if !bytes.Equal(w.Bytes()[9:], []byte{4, 9, 8}) {
		t.Error("P8.1: raw", w.Bytes())
	}
}

// P8.1, P8.2: rows of calls, against bits one by one.
func TestThereAndBack(t *testing.T) {
	r := rand.New(rand.NewSource(8))
	for range 300 {
		w, l := bits.NewWriter(), row{}
		type put struct {
			kind, n int
			x       uint32
			b       []byte
		}
		var puts []put
		for range r.Intn(40) {
			p := put{r.Intn(4), r.Intn(33), r.Uint32(), nil}
			switch p.kind {
			case 0:
				w.Put(p.x, p.n)
				l.put(p.x, p.n)
			case 1:
				w.Code(p.x, p.n)
				l.code(p.x, p.n)
			case 2:
				w.Align()
				l.align()
			case 3:
				p.b = make([]byte, r.Intn(5))
				r.Read(p.b)
				w.Raw(p.b)
				l.align()
				for _, c := range p.b {
					l.put(uint32(c), 8)
				}
			}
			puts = append(puts, p)
			if w.Len() != len(l) || !bytes.Equal(w.Bytes(), l.bytes()) {
				t.Fatal("P8.1: writer", p, w.Bytes(), l.bytes())
			}
		}
		rd := bits.NewReader(w.Bytes())
		for _, p := range puts {
			switch p.kind {
			case 0:
				if x, e := rd.Get(p.n); e != api.OK || uint64(x) != uint64(p.x)&(1<<p.n-1) {
					t.Fatal("P8.2: number", p, x, e)
				}
			case 1:
				for i := p.n - 1; i >= 0; i-- {
					if x, e := rd.Get(1); e != api.OK || x != p.x>>i&1 {
						t.Fatal("P8.2: code", p, e)
					}
				}
			case 2:
				rd.Align()
			case 3:
				if b, e := rd.Raw(len(p.b)); e != api.OK || !bytes.Equal(b, p.b) {
					t.Fatal("P8.2: raw", p, e)
				}
			}
		}
		if rd.At() != len(l) || rd.Left() != 8*len(l.bytes())-len(l) {
			t.Fatal("P8.1: at", rd.At(), rd.Left(), len(l))
		}
	}
}

// P8.1: the reader's edges.
func TestReader(t *testing.T) {
	r := bits.NewReader([]byte{0x5a, 0xff, 0x01})
	for _, n := range []int{-1, 33, math.MinInt, math.MaxInt} {
		if x, e := r.Get(n); e != api.ErrArg || x != 0 {
			t.Error("P8.1: get", n, e)
		}
	}
	if x, e := r.Get(25); e != api.ErrShort || x != 0 || r.At() != 0 {
		t.Error("P8.1: get too many", e)
	}
	if x, e := r.Get(0); e != api.OK || x != 0 {
		t.Error("P8.1: get none", e)
	}
	if x, e := r.Get(24); e != api.OK || x != 0x01ff5a || r.Left() != 0 || r.At() != 24 {
		t.Error("P8.1: get all", x, e)
	}
	if _, e := r.Get(1); e != api.ErrShort {
		t.Error("P8.1: get at the end", e)
	}
	if _, e := r.Get(0); e != api.OK {
		t.Error("P8.1: get none at the end", e)
	}
	for _, at := range []int{-1, 25, math.MinInt, math.MaxInt} {
		if e := r.Seek(at); e != api.ErrRange || r.At() != 24 {
			t.Error("P8.1: seek", at, e)
		}
	}
	if r.Seek(24) != api.OK || r.Seek(0) != api.OK || r.Seek(3) != api.OK || r.At() != 3 || r.Left() != 21 {
		t.Error("P8.1: seek", r.At())
	}
	if _, e := r.Raw(-1); e != api.ErrArg || r.At() != 8 {
		t.Error("P8.1: raw below 0", e, r.At())
	}
	r.Seek(1)
	if b, e := r.Raw(3); e != api.ErrShort || len(b) != 0 || r.At() != 8 {
		t.Error("P8.1: raw of too many", e, r.At())
	}
	if _, e := r.Raw(math.MaxInt); e != api.ErrShort {
		t.Error("P8.1: raw of far too many", e)
	}
	if b, e := r.Raw(2); e != api.OK || !bytes.Equal(b, []byte{0xff, 1}) || r.Left() != 0 {
		t.Error("P8.1: raw", b, e)
	}
	r.Align()
	if b, e := r.Raw(0); e != api.OK || len(b) != 0 {
		t.Error("P8.1: raw of none", e)
	}
}

// P0.1: nil.
func TestNil(t *testing.T) {
	var w *bits.Writer
	w.Put(1, 1)
	w.Code(1, 1)
	w.Align()
	w.Raw([]byte{1})
	if w.Len() != 0 || len(w.Bytes()) != 0 {
		t.Error("P8.1: a nil writer")
	}
	var r *bits.Reader
	r.Align()
	_, e := r.Get(1)
	_, f := r.Raw(0)
	if e != api.ErrArg || f != api.ErrArg || r.Seek(0) != api.ErrArg || r.Left() != 0 || r.At() != 0 {
		t.Error("P8.1: a nil reader")
	}
	if r := bits.NewReader(nil); r.Left() != 0 || r.Seek(0) != api.OK || r.Seek(1) != api.ErrRange {
		t.Error("P8.1: of no bytes")
	}
}

// P0.3: memory of their own.
func TestMemory(t *testing.T) {
	b := []byte{1, 2, 3}
	r := bits.NewReader(b)
	w := bits.NewWriter()
	w.Raw(b)
	clear(b)
	got, _ := r.Raw(2)
	clear(got)
	r.Seek(0)
	if x, _ := r.Get(24); x != 0x030201 {
		t.Error("P0.3: the reader")
	}
	clear(w.Bytes())
	if !bytes.Equal(w.Bytes(), []byte{1, 2, 3}) {
		t.Error("P0.3: the writer")
	}
	one := w.Bytes()
	w.Put(7, 8)
	if !bytes.Equal(one, []byte{1, 2, 3}) {
		t.Error("P0.3: an answer changed")
	}
}
