package lz_test

import (
	"bytes"
	"math"
	"math/rand"
	"testing"

	"drogher/api"
	"drogher/lz"
)

// P11.1: which tokens may be.
func TestMay(t *testing.T) {
	for _, c := range []struct {
		x    api.Token
		want bool
	}{
		{api.Token{}, true}, {api.Token{Lit: 255}, true}, {api.Token{Lit: 1, Dist: 1}, false}, {api.Token{Dist: -1}, false},
		{api.Token{Len: 3, Dist: 1}, true}, {api.Token{Len: 258, Dist: 32768}, true},
		{api.Token{Len: 2, Dist: 1}, false}, {api.Token{Len: 259, Dist: 1}, false}, {api.Token{Len: 3}, false}, {api.Token{Len: 3, Dist: 32769}, false},
		{api.Token{Len: -3, Dist: 1}, false}, {api.Token{Len: 3, Dist: -1}, false}, {api.Token{Lit: 1, Len: 3, Dist: 1}, false},
		{api.Token{Len: 1, Dist: 1}, false}, {api.Token{Len: math.MinInt, Dist: math.MaxInt}, false},
	} {
		if lz.May(c.x) != c.want {
			t.Error("P11.1:", c.x)
		}
	}
}

func lits(s string) (l []api.Token) {
	for _, c := range []byte(s) {
		l = append(l, api.Token{Lit: c})
	}
	return l
}

// P11.1: texts, and which error goes ahead.
func TestExpand(t *testing.T) {
	m := func(n, d int) api.Token { return api.Token{Len: n, Dist: d} }
	for i, c := range []struct {
		l    []api.Token
		most int
		text string
		want api.Errno
	}{
		{append(lits("a"), m(3, 1)), 4, "aaaa", api.OK}, {append(lits("abc"), m(5, 2)), math.MaxInt, "abcbcbcb", api.OK},
		{append(lits("abc"), m(3, 3), api.Token{Lit: 'x'}), 7, "abcabcx", api.OK},
		{nil, 0, "", api.OK}, {nil, -1, "", api.OK}, {nil, math.MinInt, "", api.OK},
		{lits("a"), 0, "", api.ErrCap}, {lits("a"), -1, "", api.ErrCap}, {lits("a"), math.MinInt, "", api.ErrCap}, {lits("ab"), 1, "", api.ErrCap},
		{append(lits("a"), m(3, 1)), 3, "", api.ErrCap}, {append(lits("a"), m(3, 1)), 1, "", api.ErrCap},
		{append(lits("a"), m(3, 2)), 9, "", api.ErrRange}, {append(lits("a"), m(3, 2)), 1, "", api.ErrRange}, {[]api.Token{m(3, 1)}, 9, "", api.ErrRange},
		{append(lits("a"), m(2, 9)), 1, "", api.ErrForm}, {append(lits("ab"), m(2, 9)), 1, "", api.ErrCap},
		{append(lits("a"), m(3, 2), m(0, 9)), 9, "", api.ErrRange}, {[]api.Token{m(-1, 0)}, 9, "", api.ErrForm},
	} {
		if b, e := lz.Expand(c.l, c.most); e != c.want || string(b) != c.text {
			t.Error("P11.1: expand", i, b, e)
		}
	}
}

// texts are ordinary ones, and edges.
func texts() [][]byte {
	r := rand.New(rand.NewSource(12))
	noise := make([]byte, 3000)
	r.Read(noise)
	few := make([]byte, 3000)
	for i := range few {
		few[i] = byte('a' + r.Intn(2))
	}
	far := append(append(bytes.Clone(noise[:300]), make([]byte, 32768-300)...), noise[:300]...)
	farther := append(append(bytes.Clone(noise[:300]), make([]byte, 32769-300)...), noise[:300]...)
	return [][]byte{
		nil, []byte("a"), []byte("ab"), []byte("aaa"), []byte("aaaa"), []byte("abcabcabcabc"), []byte("a rose is a rose is a rose"),
		noise, few, far, farther, bytes.Repeat([]byte("0123456789abcdef"), 100), make([]byte, 70000),
	}
}

// P11.2: what is found tells the text; how many there are.
func TestFind(t *testing.T) {
	for i, b := range texts() {
		last := len(b)
		for _, tries := range []int{math.MinInt, -1, 0, 1, 2, 5, 50, math.MaxInt} {
			before := bytes.Clone(b)
			l := lz.Find(b, tries)
			for _, x := range l {
				if !lz.May(x) || tries < 1 && x.Len != 0 {
					t.Fatal("P11.2: no token", i, tries, x)
				}
			}
			if got, e := lz.Expand(l, len(b)); e != api.OK || !bytes.Equal(got, b) || !bytes.Equal(b, before) {
				t.Fatal("P11.2: text", i, tries, e)
			}
			if len(l) > last || tries < 1 && len(l) != len(b) {
				t.Error("P11.2: how many", i, tries, len(l), last)
			}
			last = len(l)
		}
	}
	if l := lz.Find([]byte("a rose is a rose is a rose"), 9); len(l) > 13 {
		t.Error("P11.2: nothing is matched", l)
	}
}

// P11.3: bytes that are the same.
func TestSameBytes(t *testing.T) {
	for n := 0; n < 1600; n += 1 + n/200 {
		b := bytes.Repeat([]byte{byte(n)}, n)
		for _, tries := range []int{1, 3, math.MaxInt} {
			if l := lz.Find(b, tries); len(l) > n/258+4 {
				t.Fatal("P11.3:", n, tries, len(l))
			}
		}
	}
}

// P0.3, P0.5: the same each time, in new memory.
func TestMemory(t *testing.T) {
	b := []byte("again and again and again")
	l := lz.Find(b, 5)
	n := len(l)
	clear(l)
	if again := lz.Find(b, 5); len(again) != n || again[0].Lit != 'a' {
		t.Error("P0.3:", again)
	}
}
