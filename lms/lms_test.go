package lms_test

import (
	"bytes"
	"crypto/sha256"
	"encoding/binary"
	"math"
	"testing"

	"drogher/api"
	"drogher/lms"
	"drogher/ots"
)

var (
	id   = api.Ident{9, 8, 7}
	seed = api.Digest{1, 2, 3}
)

// level is a quick one.
var level = api.Level{Lms: api.LmsH5, Ots: api.OtsW1}

func sum(rows ...any) (d api.Digest) {
	h := sha256.New()
	for _, r := range rows {
		binary.Write(h, binary.BigEndian, r)
	}
	return api.Digest(h.Sum(nil))
}

// node is a node's sum, by the words of the chapter.
func node(l api.Level, r uint32) api.Digest {
	first := uint32(1) << lms.High(l.Lms)
	if r >= first {
		p, _ := ots.Public(l.Ots, id, r-first, seed)
		return sum(id, r, []byte{0x82, 0x82}, p)
	}
	return sum(id, r, []byte{0x83, 0x83}, node(l, 2*r), node(l, 2*r+1))
}

// signature is one by a leaf, by the words of the chapter.
func signature(l api.Level, q uint32, text []byte) []byte {
	b := binary.BigEndian.AppendUint32(nil, q)
	one, _ := ots.Sign(l.Ots, id, q, seed, text)
	b = binary.BigEndian.AppendUint32(append(b, one...), l.Lms)
	for r := uint32(1)<<lms.High(l.Lms) + q; r > 1; r /= 2 {
		d := node(l, r^1)
		b = append(b, d[:]...)
	}
	return b
}

func grow(t *testing.T, l api.Level) *lms.Tree {
	tree, e := lms.Grow(l, id, seed)
	if e != api.OK || tree == nil {
		t.Fatal("P4.1: grow", l, e)
	}
	return tree
}

// P4.1: the numbers of each kind, and of what is none.
func TestKinds(t *testing.T) {
	for i, h := range []int{5, 10, 15, 20, 25} {
		k := uint32(5 + i)
		if lms.High(k) != h {
			t.Error("P4.1: high", k)
		}
		for o := uint32(1); o <= 4; o++ {
			if lms.Size(api.Level{Lms: k, Ots: o}) != 8+ots.Size(o)+32*h {
				t.Error("P4.1: size", k, o)
			}
		}
	}
	if lms.Size(level) != 8684 {
		t.Error("P4.1: the example", lms.Size(level))
	}
	for _, l := range []api.Level{{}, {Lms: 4, Ots: 1}, {Lms: 10, Ots: 1}, {Lms: 5}, {Lms: 5, Ots: 5}, {Lms: math.MaxUint32, Ots: math.MaxUint32}, {Lms: 9, Ots: 0}} {
		if tree, e := lms.Grow(l, id, seed); lms.Size(l) != 0 || e != api.ErrKind || tree != nil {
			t.Error("P4.1: of no kind", l, e)
		}
	}
	for _, k := range []uint32{0, 4, 10, math.MaxUint32} {
		if lms.High(k) != 0 {
			t.Error("P4.1: high of no kind", k)
		}
	}
	for _, k := range []uint32{api.LmsH20, api.LmsH25} {
		if tree, e := lms.Grow(api.Level{Lms: k, Ots: 4}, id, seed); e != api.ErrLong || tree != nil {
			t.Error("P4.1: too high", k, e)
		}
	}
}

// P4.1, P4.2: what a tree is and signs, leaf by leaf.
func TestSigns(t *testing.T) {
	for _, l := range []api.Level{level, {Lms: api.LmsH5, Ots: api.OtsW4}} {
		tree := grow(t, l)
		root := node(l, 1)
		want := binary.BigEndian.AppendUint32(binary.BigEndian.AppendUint32(nil, l.Lms), l.Ots)
		want = append(append(want, id[:]...), root[:]...)
		if !bytes.Equal(tree.Public(), want) || tree.Leaves() != 32 {
			t.Error("P4.1: public key", l)
		}
		for q := range uint32(32) {
			text := bytes.Repeat([]byte{byte(q)}, int(q))
			s, e := tree.Sign(q, text)
			if e != api.OK || len(s) != lms.Size(l) || q%13 == 0 && !bytes.Equal(s, signature(l, q, text)) {
				t.Fatal("P4.1: signature", l, q, e)
			}
			if e := lms.Verify(tree.Public(), text, s); e != api.OK {
				t.Error("P4.2:", q, e)
			}
			if n, e := lms.Take(append(bytes.Clone(s), 1, 2, 3)); e != api.OK || n != len(s) {
				t.Error("P4.1: take", n, e)
			}
		}
		for _, q := range []uint32{32, 33, math.MaxUint32} {
			if s, e := tree.Sign(q, nil); e != api.ErrSpent || len(s) != 0 {
				t.Error("P4.1: no such leaf", q, e)
			}
		}
	}
}

// P4.2: a higher tree.
func TestHigher(t *testing.T) {
	l := api.Level{Lms: api.LmsH10, Ots: api.OtsW1}
	tree := grow(t, l)
	s, e := tree.Sign(1023, []byte("far"))
	if e != api.OK || tree.Leaves() != 1024 || lms.Verify(tree.Public(), []byte("far"), s) != api.OK {
		t.Error("P4.2:", e)
	}
}

// turn is b with one byte another one.
func turn(b []byte, at int, x byte) []byte {
	c := bytes.Clone(b)
	c[at] = x
	return c
}

// P4.1: Take at each cut and each wrong kind.
func TestTakeErrors(t *testing.T) {
	s, _ := grow(t, level).Sign(3, []byte("text"))
	at := 4 + ots.Size(level.Ots)
	for _, c := range []struct {
		sig  []byte
		want api.Errno
	}{
		{nil, api.ErrShort}, {s[:7], api.ErrShort}, {turn(s, 7, 9)[:7], api.ErrShort},
		{turn(s, 7, 9)[:8], api.ErrKind}, {turn(s, 7, 0), api.ErrKind}, {turn(s, 4, 1), api.ErrKind},
		{s[:8], api.ErrShort}, {s[:at], api.ErrShort}, {s[:at+3], api.ErrShort}, {turn(s, at+2, 1)[:at+3], api.ErrShort},
		{turn(s, at+3, 4), api.ErrKind}, {turn(s, at+3, 10)[:at+4], api.ErrKind},
		{s[:at+4], api.ErrShort}, {s[:len(s)-1], api.ErrShort}, {turn(s, at+3, 6), api.ErrShort},
	} {
		if n, e := lms.Take(c.sig); e != c.want || n != 0 {
			t.Error("P4.1: take", len(c.sig), n, e, c.want)
		}
	}
}

// P4.3: which error of a verification goes ahead.
func TestVerifyErrors(t *testing.T) {
	tree := grow(t, level)
	p := tree.Public()
	text := []byte("text")
	s, _ := tree.Sign(3, text)
	w2, _ := grow(t, api.Level{Lms: 5, Ots: 2}).Sign(3, text)
	at := 4 + ots.Size(level.Ots)
	long := append(bytes.Clone(s), 0)
	other := append(turn(s, at+3, 6), make([]byte, 160)...)
	for i, c := range []struct {
		public, sig []byte
		want        api.Errno
	}{
		{nil, s, api.ErrForm}, {p[:55], s, api.ErrForm}, {append(bytes.Clone(p), 0), s, api.ErrForm},
		{turn(p, 3, 4), nil, api.ErrKind}, {turn(p, 7, 0), s, api.ErrKind}, {turn(p, 0, 1), s, api.ErrKind},
		{p, nil, api.ErrShort}, {p, s[:len(s)-1], api.ErrShort}, {p, turn(s, 7, 5), api.ErrKind},
		{p, long, api.ErrForm}, {p, w2, api.ErrKind}, {p, append(bytes.Clone(w2), 1), api.ErrForm}, {p, other, api.ErrKind},
		{turn(p, 3, 6), s, api.ErrKind}, {turn(p, 7, 2), s, api.ErrKind},
		{p, turn(s, 3, 32), api.ErrSpent}, {p, turn(s, 0, 255), api.ErrSpent},
		{p, turn(s, 3, 4), api.ErrSign}, {turn(p, 10, 99), s, api.ErrSign}, {turn(p, 55, p[55]^1), s, api.ErrSign},
		{p, s, api.OK},
	} {
		if e := lms.Verify(c.public, text, c.sig); e != c.want {
			t.Error("P4.3:", i, e, c.want)
		}
	}
	if e := lms.Verify(p, []byte("Text"), s); e != api.ErrSign {
		t.Error("P4.3: another text", e)
	}
}

// P4.3: whichever byte is spoilt, it isn't right.
func TestEachByte(t *testing.T) {
	tree := grow(t, level)
	text := []byte("text")
	s, _ := tree.Sign(17, text)
	for at := 0; at < len(s); at += 61 {
		b := turn(s, at, s[at]^0x10)
		if e := lms.Verify(tree.Public(), text, b); e == api.OK {
			t.Error("P4.3: byte", at)
		} else if at >= 8 && at < 4+ots.Size(1) && e != api.ErrSign {
			t.Error("P4.3: byte", at, e)
		}
	}
	for at := len(s) - 160; at < len(s); at++ {
		if lms.Verify(tree.Public(), text, turn(s, at, s[at]^1)) != api.ErrSign {
			t.Error("P4.3: byte of the way", at)
		}
	}
}

// P0.1, P0.3: a nil tree; new memory.
func TestNilAndMemory(t *testing.T) {
	var none *lms.Tree
	if _, e := none.Sign(0, nil); e != api.ErrArg || len(none.Public()) != 0 || none.Leaves() != 0 {
		t.Error("P4.1: nil")
	}
	tree := grow(t, level)
	p := tree.Public()
	s, _ := tree.Sign(1, nil)
	a, b := bytes.Clone(p), bytes.Clone(s)
	clear(p)
	clear(s)
	again, _ := tree.Sign(1, nil)
	if !bytes.Equal(tree.Public(), a) || !bytes.Equal(again, b) {
		t.Error("P0.3: shared")
	}
}
