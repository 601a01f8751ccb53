package ots_test

import (
	"bytes"
	"crypto/sha256"
	"encoding/binary"
	"math"
	"testing"

	"drogher/api"
	"drogher/ots"
)

var kinds = []uint32{api.OtsW1, api.OtsW2, api.OtsW4, api.OtsW8}

var (
	id   = api.Ident{1, 2, 3, 4, 5, 6, 7, 8, 9, 10, 11, 12, 13, 14, 15, 16}
	seed = api.Digest{200, 201, 202}
)

// The words of the chapter, once more, as plainly as they stand.

func sum(rows ...any) []byte {
	h := sha256.New()
	for _, r := range rows {
		if b, ok := r.([]byte); ok {
			h.Write(b)
		} else {
			binary.Write(h, binary.BigEndian, r)
		}
	}
	return h.Sum(nil)
}

func width(kind uint32) int { return 1 << (kind - 1) }

func chains(kind uint32) int { return []int{265, 133, 67, 34}[kind-1] }

func secret(q uint32, i int) []byte { return sum(id[:], q, uint16(i), byte(255), seed[:]) }

func walk(q uint32, i, from, to int, d []byte) []byte {
	for j := from; j < to; j++ {
		d = sum(id[:], q, uint16(i), byte(j), d)
	}
	return d
}

func digits(kind, q uint32, salt, text []byte) []int {
	w := width(kind)
	cut := func(b []byte) (l []int) {
		for _, c := range b {
			for at := 8 - w; at >= 0; at -= w {
				l = append(l, int(c)>>at&(1<<w-1))
			}
		}
		return l
	}
	d := sum(id[:], q, []byte{0x81, 0x81}, salt, text)
	check := 0
	for _, x := range cut(d) {
		check += 1<<w - 1 - x
	}
	check <<= []int{7, 6, 4, 0}[kind-1]
	return cut(append(d, byte(check>>8), byte(check)))[:chains(kind)]
}

func public(kind, q uint32) []byte {
	rows := []any{id[:], q, []byte{0x80, 0x80}}
	for i := range chains(kind) {
		rows = append(rows, walk(q, i, 0, 1<<width(kind)-1, secret(q, i)))
	}
	return sum(rows...)
}

func signature(kind, q uint32, text []byte) []byte {
	salt := sum(id[:], q, []byte{0xff, 0xfd}, byte(255), seed[:])
	sig := append(binary.BigEndian.AppendUint32(nil, kind), salt...)
	for i, d := range digits(kind, q, salt, text) {
		sig = append(sig, walk(q, i, 0, d, secret(q, i))...)
	}
	return sig
}

func candidate(kind, q uint32, sig, text []byte) []byte {
	rows := []any{id[:], q, []byte{0x80, 0x80}}
	for i, d := range digits(kind, q, sig[4:36], text) {
		rows = append(rows, walk(q, i, d, 1<<width(kind)-1, sig[36+32*i:68+32*i]))
	}
	return sum(rows...)
}

// P3.1: the numbers of each kind, and of what is none.
func TestKinds(t *testing.T) {
	for _, k := range kinds {
		if ots.Width(k) != width(k) || ots.Chains(k) != chains(k) || ots.Size(k) != 36+32*chains(k) {
			t.Error("P3.1:", k)
		}
	}
	if ots.Size(3) != 2180 {
		t.Error("P3.1: the example")
	}
	for _, k := range []uint32{0, 5, 6, math.MaxUint32} {
		if ots.Width(k) != 0 || ots.Chains(k) != 0 || ots.Size(k) != 0 {
			t.Error("P3.1: of no kind", k)
		}
		if d, e := ots.Public(k, id, 0, seed); e != api.ErrKind || d != (api.Digest{}) {
			t.Error("P3.1: public of no kind", k, e)
		}
		if s, e := ots.Sign(k, id, 0, seed, nil); e != api.ErrKind || len(s) != 0 {
			t.Error("P3.1: sign of no kind", k, e)
		}
		if d, e := ots.Candidate(k, id, 0, nil, nil); e != api.ErrKind || d != (api.Digest{}) {
			t.Error("P3.1: candidate of no kind", k, e)
		}
	}
}

// P3.1, P3.2: keys, signatures, candidates.
func TestThereAndBack(t *testing.T) {
	for _, k := range kinds {
		for _, q := range []uint32{0, 1, 31, math.MaxUint32} {
			p, e := ots.Public(k, id, q, seed)
			if e != api.OK || !bytes.Equal(p[:], public(k, q)) {
				t.Error("P3.1: public", k, q, e)
			}
			for _, text := range [][]byte{nil, []byte("a"), bytes.Repeat([]byte("text"), 50)} {
				s, e := ots.Sign(k, id, q, seed, text)
				if e != api.OK || !bytes.Equal(s, signature(k, q, text)) {
					t.Error("P3.1: signature", k, q, e)
				}
				if c, e := ots.Candidate(k, id, q, s, text); e != api.OK || c != p {
					t.Error("P3.2:", k, q, e)
				}
			}
		}
	}
}

// P3.3: what is spoilt makes another sum, and just the one that the words tell.
func TestSpoilt(t *testing.T) {
	for _, k := range kinds {
		p, _ := ots.Public(k, id, 7, seed)
		s, _ := ots.Sign(k, id, 7, seed, []byte("text"))
		for at := 4; at < len(s); at += 97 {
			b := bytes.Clone(s)
			b[at] ^= 1
			c, e := ots.Candidate(k, id, 7, b, []byte("text"))
			if e != api.OK || !bytes.Equal(c[:], candidate(k, 7, b, []byte("text"))) || c == p {
				t.Error("P3.3: byte", at, e)
			}
		}
		if c, e := ots.Candidate(k, id, 7, s, []byte("Text")); e != api.OK || c == p || !bytes.Equal(c[:], candidate(k, 7, s, []byte("Text"))) {
			t.Error("P3.3: another text", e)
		}
		if c, e := ots.Candidate(k, id, 8, s, []byte("text")); e != api.OK || c == p {
			t.Error("P3.3: another number", e)
		}
	}
}

// P3.1: which error of a candidate goes ahead.
func TestCandidateErrors(t *testing.T) {
	s, _ := ots.Sign(3, id, 0, seed, []byte("x"))
	other := bytes.Clone(s)
	other[3] = 4
	for _, c := range []struct {
		sig  []byte
		want api.Errno
	}{
		{nil, api.ErrForm}, {s[:len(s)-1], api.ErrForm}, {append(bytes.Clone(s), 0), api.ErrForm},
		{other[:len(s)-1], api.ErrForm}, {other, api.ErrKind}, {s, api.OK},
	} {
		if d, e := ots.Candidate(3, id, 0, c.sig, []byte("x")); e != c.want || e != api.OK && d != (api.Digest{}) {
			t.Error("P3.1:", len(c.sig), e, c.want)
		}
	}
}

// P0.3: nothing is changed; what is answered is new each time.
func TestMemory(t *testing.T) {
	text := []byte("a text")
	s, _ := ots.Sign(1, id, 0, seed, text)
	c := bytes.Clone(s)
	ots.Candidate(1, id, 0, s, text)
	if !bytes.Equal(s, c) || string(text) != "a text" {
		t.Error("P0.3: changed")
	}
	clear(s)
	if again, _ := ots.Sign(1, id, 0, seed, text); !bytes.Equal(again, c) {
		t.Error("P0.3: shared")
	}
}
