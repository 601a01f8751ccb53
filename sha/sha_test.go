package sha_test

import (
	"bytes"
	"crypto/sha256"
	"math/rand"
	"testing"

	"drogher/api"
	"drogher/sha"
)

func noise(seed int64, n int) []byte {
	b := make([]byte, n)
	rand.New(rand.NewSource(seed)).Read(b)
	return b
}

// P1.1: the sum of every length around the edges of blocks.
func TestSumOfEachLength(t *testing.T) {
	all := noise(1, 400)
	for n := range len(all) + 1 {
		if got, want := sha.Sum(all[:n]), api.Digest(sha256.Sum256(all[:n])); got != want {
			t.Fatalf("P1.1: %d bytes: %x, want %x", n, got, want)
		}
	}
	big := noise(2, 1<<20)
	if sha.Sum(big) != api.Digest(sha256.Sum256(big)) {
		t.Error("P1.1: a long text")
	}
	if got := sha.Sum([]byte("abc")); !bytes.Equal(got[:4], []byte{0xba, 0x78, 0x16, 0xbf}) {
		t.Error("P1.1: the example")
	}
	if sha.Sum(nil) != sha.Sum([]byte{}) {
		t.Error("P0.4")
	}
}

// P1.2: however bytes are cut.
func TestCuts(t *testing.T) {
	r := rand.New(rand.NewSource(3))
	for range 300 {
		all := noise(r.Int63(), r.Intn(700))
		h := sha.New()
		for rest := all; len(rest) > 0; {
			n := r.Intn(min(len(rest), 150) + 1)
			h.Write(rest[:n])
			rest = rest[n:]
			at := len(all) - len(rest)
			if h.Len() != uint64(at) || h.Sum() != api.Digest(sha256.Sum256(all[:at])) {
				t.Fatal("P1.2: at", at)
			}
		}
		if h.Sum() != h.Sum() {
			t.Fatal("P1.1: Sum changes the hash")
		}
	}
}

// P1.1: what is done to a copy changes nothing of the other one.
func TestCopy(t *testing.T) {
	a := sha.New()
	a.Write([]byte("some bytes"))
	b := a.Copy()
	if a.Sum() != b.Sum() || b.Len() != 10 {
		t.Error("P1.1: not the same")
	}
	b.Write([]byte("more"))
	if a.Sum() != sha.Sum([]byte("some bytes")) || a.Len() != 10 {
		t.Error("P1.1: the first one changed")
	}
	a.Write(noise(4, 200))
	if b.Sum() != sha.Sum([]byte("some bytesmore")) || b.Len() != 14 {
		t.Error("P1.1: the copy changed")
	}
}

// P0.1: a nil hash.
func TestNil(t *testing.T) {
	var h *sha.Hash
	h.Write([]byte("x"))
	if h.Sum() != sha.Sum(nil) || h.Len() != 0 || h.Copy() != nil {
		t.Error("P1.1: nil")
	}
}

// P0.3: nothing that is handed in is kept or changed.
func TestKeepsNothing(t *testing.T) {
	b := noise(5, 100)
	c := bytes.Clone(b)
	h := sha.New()
	h.Write(b)
	if !bytes.Equal(b, c) {
		t.Error("P0.3: changed")
	}
	clear(b)
	if h.Sum() != sha.Sum(c) {
		t.Error("P0.3: kept")
	}
}
