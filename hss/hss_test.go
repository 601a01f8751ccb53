package hss_test

import (
	"bytes"
	"crypto/sha256"
	"encoding/binary"
	"math"
	"testing"

	"drogher/api"
	"drogher/hss"
	"drogher/lms"
)

var (
	quick = api.Level{Lms: api.LmsH5, Ots: api.OtsW1}
	short = api.Level{Lms: api.LmsH5, Ots: api.OtsW2}
	high  = api.Level{Lms: api.LmsH10, Ots: api.OtsW1}
)

func key(t *testing.T, levels ...api.Level) *hss.Key {
	k, e := hss.New([]byte("seed"), levels)
	if e != api.OK || k == nil {
		t.Fatal("P5.1: new", e)
	}
	return k
}

// tree is the tree number n of a level, by the words of the chapter.
func tree(d uint32, n uint64, l api.Level) *lms.Tree {
	name := binary.BigEndian.AppendUint64(binary.BigEndian.AppendUint32([]byte("seed"), d), n)
	a := sha256.Sum256(append(bytes.Clone(name), 1))
	b := sha256.Sum256(append(bytes.Clone(name), 0))
	t, _ := lms.Grow(l, api.Ident(a[:16]), b)
	return t
}

// signature is one of two levels of 32 leaves, by the words of the chapter.
func signature(n uint64, text []byte, levels ...api.Level) []byte {
	first, second := tree(0, 0, levels[0]), tree(1, n/32, levels[1])
	b := []byte{0, 0, 0, 1}
	s, _ := first.Sign(uint32(n/32), second.Public())
	b = append(append(b, s...), second.Public()...)
	s, _ = second.Sign(uint32(n%32), text)
	return append(b, s...)
}

// P5.1, P5.2: one level, to its end.
func TestOneLevel(t *testing.T) {
	k := key(t, quick)
	if !bytes.Equal(k.Public(), append([]byte{0, 0, 0, 1}, tree(0, 0, quick).Public()...)) {
		t.Error("P5.1: public key")
	}
	for i := range uint64(32) {
		if k.Next() != i || k.Left() != 32-i {
			t.Error("P5.1: number", i, k.Next(), k.Left())
		}
		text := []byte{byte(i)}
		s, e := k.Sign(text)
		want, _ := tree(0, 0, quick).Sign(uint32(i), text)
		if e != api.OK || !bytes.Equal(s, append([]byte{0, 0, 0, 0}, want...)) || len(s) != hss.Size([]api.Level{quick}) {
			t.Fatal("P5.1: signature", i, e)
		}
		if e := hss.Verify(k.Public(), text, s); e != api.OK {
			t.Error("P5.2:", i, e)
		}
	}
	if s, e := k.Sign(nil); e != api.ErrSpent || len(s) != 0 || k.Next() != 32 || k.Left() != 0 {
		t.Error("P5.1: spent", e)
	}
}

// P5.1, P5.2: two levels, over the borders of the trees.
func TestTwoLevels(t *testing.T) {
	levels := []api.Level{quick, short}
	k := key(t, levels...)
	leaves := map[string]bool{}
	for _, n := range []uint64{0, 1, 30, 31, 32, 33, 64, 1022, 1023} {
		if e := k.Skip(n); e != api.OK || k.Next() != n || k.Left() != 1024-n {
			t.Fatal("P5.1: skip", n, e)
		}
		text := []byte("text")
		s, e := k.Sign(text)
		if e != api.OK || !bytes.Equal(s, signature(n, text, levels...)) || len(s) != hss.Size(levels) {
			t.Fatal("P5.1: signature", n, e)
		}
		if e := hss.Verify(k.Public(), text, s); e != api.OK {
			t.Error("P5.2:", n, e)
		}
		at := 4 + lms.Size(quick)
		leaf := string(s[at:at+60]) + string(s[4:8])
		if leaves[leaf] {
			t.Error("P5.2: a leaf again", n)
		}
		leaves[leaf] = true
	}
	if _, e := k.Sign(nil); e != api.ErrSpent {
		t.Error("P5.1: spent", e)
	}
}

// P5.1: what may not be made.
func TestNewErrors(t *testing.T) {
	nine := []api.Level{quick, quick, quick, quick, quick, quick, quick, quick, quick}
	tall := api.Level{Lms: api.LmsH20, Ots: 1}
	for i, c := range []struct {
		levels []api.Level
		want   api.Errno
	}{
		{nil, api.ErrArg}, {[]api.Level{}, api.ErrArg}, {nine, api.ErrArg},
		{[]api.Level{{}}, api.ErrKind}, {[]api.Level{quick, {Lms: 5}}, api.ErrKind},
		{[]api.Level{tall}, api.ErrLong}, {[]api.Level{tall, {}}, api.ErrLong}, {[]api.Level{{}, tall}, api.ErrKind},
	} {
		if k, e := hss.New([]byte("seed"), c.levels); e != c.want || k != nil {
			t.Error("P5.1: new", i, e)
		}
	}
	if hss.Size(nil) != 0 || hss.Size(nine) != 0 || hss.Size([]api.Level{quick, {}}) != 0 {
		t.Error("P5.1: size of none")
	}
	if hss.Size([]api.Level{{Lms: 5, Ots: 3}}) != 2352 || hss.Size([]api.Level{tall, quick}) != 4+56+lms.Size(tall)+lms.Size(quick) {
		t.Error("P5.1: size")
	}
}

// P5.1, P5.2: as many levels as there may be.
func TestEightLevels(t *testing.T) {
	levels := []api.Level{quick, quick, quick, quick, quick, quick, quick, quick}
	k := key(t, levels...)
	number := uint64(0x8421084210)
	if k.Left() != 1<<40 || k.Skip(1<<40+1) != api.ErrSpent || k.Skip(number) != api.OK || k.Left() != 1<<40-number {
		t.Error("P5.1: left", k.Left())
	}
	s, e := k.Sign([]byte("x"))
	if e != api.OK || len(s) != hss.Size(levels) || hss.Verify(k.Public(), []byte("x"), s) != api.OK {
		t.Fatal("P5.2:", e)
	}
	for d, at := 0, 4; d < 8; d++ {
		if want := byte(number >> (35 - 5*d) & 31); s[at+3] != want {
			t.Error("P5.1: the leaf of level", d, s[at:at+4], want)
		}
		at += lms.Size(quick) + 56
	}
	if k.Skip(1<<40) != api.OK || k.Left() != 0 {
		t.Error("P5.1: skip to the end")
	}
}

// P5.1: which numbers are skipped to.
func TestSkip(t *testing.T) {
	k := key(t, quick)
	for _, c := range []struct {
		to   uint64
		want api.Errno
		next uint64
	}{
		{33, api.ErrSpent, 0}, {math.MaxUint64, api.ErrSpent, 0}, {5, api.OK, 5}, {4, api.ErrArg, 5}, {5, api.OK, 5}, {32, api.OK, 32}, {31, api.ErrArg, 32},
	} {
		if e := k.Skip(c.to); e != c.want || k.Next() != c.next {
			t.Error("P5.1: skip", c, e, k.Next())
		}
	}
}

// P5.1: a key of more numbers than 64 bits tell.
func TestHuge(t *testing.T) {
	if testing.Short() {
		t.Skip()
	}
	k := key(t, high, high, high, high, high, high, quick) // 2^65
	if k.Left() != 1<<63 {
		t.Error("P5.1: left", k.Left())
	}
	if e := k.Skip(math.MaxUint64); e != api.OK || k.Left() != 1<<63 || k.Next() != math.MaxUint64 {
		t.Error("P5.1: skip", e, k.Left())
	}
	a, e := k.Sign([]byte("a"))
	b, f := k.Sign([]byte("a"))
	if e != api.OK || f != api.OK || bytes.Equal(a, b) {
		t.Error("P5.2: the same leaf", e, f)
	}
	if !bytes.Equal(a[4:8], []byte{0, 0, 1, 255}) || !bytes.Equal(b[4:8], []byte{0, 0, 2, 0}) || k.Next() != math.MaxUint64 {
		t.Error("P5.1: the first level's leaves", a[4:8], b[4:8])
	}
	for _, s := range [][]byte{a, b} {
		if e := hss.Verify(k.Public(), []byte("a"), s); e != api.OK {
			t.Error("P5.2:", e)
		}
	}
	if e := k.Skip(math.MaxUint64); e != api.ErrArg {
		t.Error("P5.1: back", e)
	}
}

func turn(b []byte, at int, x byte) []byte {
	c := bytes.Clone(b)
	c[at] ^= x
	return c
}

// P5.3: which error of a verification goes ahead.
func TestVerifyErrors(t *testing.T) {
	k := key(t, quick, short)
	p, text := k.Public(), []byte("text")
	s, _ := k.Sign(text)
	n := 4 + lms.Size(quick)
	nine := turn(p, 3, 11) // 2 turned to 9
	for i, c := range []struct {
		public, sig []byte
		want        api.Errno
	}{
		{nil, s, api.ErrForm}, {p[:59], s, api.ErrForm}, {append(bytes.Clone(p), 0), s, api.ErrForm},
		{turn(p, 3, 2), s, api.ErrForm}, {nine, s, api.ErrForm}, {nine, turn(s, 3, 9), api.ErrForm}, {p[:59], s[:n-1], api.ErrForm}, {append(bytes.Clone(p), 0), s[:n-1], api.ErrForm}, {turn(p, 0, 1), s, api.ErrForm},
		{p, nil, api.ErrForm}, {p, s[:3], api.ErrForm}, {p, turn(s, 3, 1), api.ErrForm}, {p, turn(s, 0, 1), api.ErrForm},
		{turn(p, 3, 1), s, api.ErrForm},
		{p, s[:4], api.ErrShort}, {p, s[:n-1], api.ErrShort}, {p, turn(s, 11, 16), api.ErrKind}, {p, turn(s, 4+4+3, 16)[:12], api.ErrKind},
		{p, s[:n], api.ErrShort}, {p, s[:n+55], api.ErrShort}, {turn(p, 8, 1), s[:n+55], api.ErrShort},
		{p, turn(s, n-1, 1)[:n+56], api.ErrSign}, {p, turn(s, n-1, 1)[:n+55], api.ErrShort},
		{turn(p, 59, 1), s, api.ErrSign}, {turn(p, 7, 16), s, api.ErrKind}, {p, turn(s, 7, 32), api.ErrSpent}, {p, turn(s, 7, 1), api.ErrSign},
		{p, turn(s, n+20, 1), api.ErrSign}, {p, turn(s, n+3, 16), api.ErrSign},
		{p, s[:n+56], api.ErrShort}, {p, s[:len(s)-1], api.ErrShort}, {p, append(bytes.Clone(s), 0), api.ErrForm},
		{p, turn(s, len(s)-1, 1), api.ErrSign}, {p, turn(s, n+56+3, 1), api.ErrSign}, {p, turn(s, n+56+7, 1), api.ErrKind},
		{p, s, api.OK},
	} {
		if e := hss.Verify(c.public, text, c.sig); e != c.want {
			t.Error("P5.3:", i, e, c.want)
		}
	}
	if e := hss.Verify(p, []byte("Text"), s); e != api.ErrSign {
		t.Error("P5.3: another text", e)
	}
}

// P0.1, P0.3: a nil key; nothing is kept or shared.
func TestNilAndMemory(t *testing.T) {
	var none *hss.Key
	if _, e := none.Sign(nil); e != api.ErrArg || none.Skip(0) != api.ErrArg || none.Next() != 0 || none.Left() != 0 || len(none.Public()) != 0 {
		t.Error("P5.1: nil")
	}
	seed, levels := []byte("seed"), []api.Level{quick, quick}
	k, _ := hss.New(seed, levels)
	clear(seed)
	clear(levels)
	p := k.Public()
	p[5]++
	k.Skip(40)
	s, e := k.Sign([]byte("x"))
	if e != api.OK || !bytes.Equal(s, signature(40, []byte("x"), quick, quick)) || bytes.Equal(p, k.Public()) {
		t.Error("P0.3:", e)
	}
}
