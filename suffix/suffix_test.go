package suffix_test

import (
	"bytes"
	"math/rand"
	"slices"
	"testing"

	"drogher/api"
	"drogher/suffix"
)

func index(t *testing.T, b []byte) *suffix.Index {
	x, e := suffix.New(b)
	if e != api.OK || x == nil || x.Len() != len(b) {
		t.Fatal("P14.1: new", e)
	}
	return x
}

// texts are many short ones, of few letters and of many.
func texts() [][]byte {
	l := [][]byte{nil, []byte("a"), []byte("banana"), []byte("mississippi"), bytes.Repeat([]byte("ab"), 40), make([]byte, 100), bytes.Repeat([]byte{255}, 33), {255, 0, 255}}
	r := rand.New(rand.NewSource(14))
	for range 300 {
		b := make([]byte, r.Intn(60))
		letters := 1 + r.Intn(4)
		if r.Intn(3) == 0 {
			letters = 256
		}
		for i := range b {
			b[i] = byte(r.Intn(letters))
		}
		l = append(l, b)
	}
	return l
}

// P14.1, P14.2: the array, against sorting.
func TestArray(t *testing.T) {
	for _, b := range texts() {
		want := make([]int, len(b))
		for i := range want {
			want[i] = i
		}
		slices.SortFunc(want, func(i, j int) int { return bytes.Compare(b[i:], b[j:]) })
		if got := index(t, b).Array(); !slices.Equal(got, want) {
			t.Fatal("P14.2:", b, got, want)
		}
	}
	if got := index(t, []byte("banana")).Array(); !slices.Equal(got, []int{5, 3, 1, 0, 4, 2}) {
		t.Error("P14.1: the example", got)
	}
}

// P14.2: long texts.
func TestLong(t *testing.T) {
	noise := make([]byte, 50000)
	rand.New(rand.NewSource(15)).Read(noise)
	for _, b := range [][]byte{noise, make([]byte, 50000), append(bytes.Clone(noise[:20000]), noise[:20000]...)} {
		l := index(t, b).Array()
		there := make([]bool, len(b))
		for k, i := range l {
			if there[i] || k > 0 && bytes.Compare(b[l[k-1]:], b[i:]) >= 0 {
				t.Fatal("P14.2: at", k)
			}
			there[i] = true
		}
		if len(l) != len(b) {
			t.Fatal("P14.2: how many", len(l))
		}
	}
}

// begins is with how many bytes of q b begins.
func begins(b, q []byte) int {
	n := 0
	for n < min(len(b), len(q)) && b[n] == q[n] {
		n++
	}
	return n
}

// P14.1: the longest, against trying each place.
func TestLongest(t *testing.T) {
	r := rand.New(rand.NewSource(16))
	for _, b := range texts() {
		x := index(t, b)
		for range 12 {
			q := make([]byte, r.Intn(12))
			for i := range q {
				q[i] = byte(r.Intn(3))
			}
			if len(b) > 0 && r.Intn(2) == 0 {
				q = append(bytes.Clone(b[r.Intn(len(b)):]), q...)
			}
			want := 0
			for i := range b {
				want = max(want, begins(b[i:], q))
			}
			before := bytes.Clone(q)
			at, n := x.Longest(q)
			if n != want || n == 0 && at != 0 || n > 0 && begins(b[at:], q) != n || !bytes.Equal(q, before) {
				t.Fatal("P14.1: longest", b, q, at, n, want)
			}
			if again, m := x.Longest(q); again != at || m != n {
				t.Fatal("P0.5: longest")
			}
		}
		if at, n := x.Longest(b); at != 0 || n != len(b) {
			t.Fatal("P14.1: the text itself", at, n)
		}
	}
	if at, n := index(t, []byte("banana")).Longest([]byte("nab")); n != 2 || at != 2 && at != 4 {
		t.Error("P14.1: the example", at, n)
	}
	if at, n := index(t, []byte("banana")).Longest(nil); at != 0 || n != 0 {
		t.Error("P14.1: of nothing", at, n)
	}
}

// P0.1, P0.3: nil, and memory.
func TestEdges(t *testing.T) {
	var none *suffix.Index
	if at, n := none.Longest([]byte("a")); at != 0 || n != 0 || len(none.Array()) != 0 || none.Len() != 0 {
		t.Error("P14.1: nil")
	}
	b := []byte("banana")
	x := index(t, b)
	clear(b)
	clear(x.Array())
	if !slices.Equal(x.Array(), []int{5, 3, 1, 0, 4, 2}) {
		t.Error("P0.3: the array")
	}
	if _, n := x.Longest([]byte("nana")); n != 4 {
		t.Error("P0.3: the text", n)
	}
}
