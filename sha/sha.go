// Package sha is layer 1: the sum SHA-256.
package sha

import (
	"math/bits"

	"drogher/api"
)

// size is how many bytes a block has.
const size = 64

// cubes are the first 32 bits behind the point of the cube roots of the first 64 primes.
var cubes = [64]uint32{
	0x428a2f98, 0x71374491, 0xb5c0fbcf, 0xe9b5dba5, 0x3956c25b, 0x59f111f1, 0x923f82a4, 0xab1c5ed5,
	0xd807aa98, 0x12835b01, 0x243185be, 0x550c7dc3, 0x72be5d74, 0x80deb1fe, 0x9bdc06a7, 0xc19bf174,
	0xe49b69c1, 0xefbe4786, 0x0fc19dc6, 0x240ca1cc, 0x2de92c6f, 0x4a7484aa, 0x5cb0a9dc, 0x76f988da,
	0x983e5152, 0xa831c66d, 0xb00327c8, 0xbf597fc7, 0xc6e00bf3, 0xd5a79147, 0x06ca6351, 0x14292967,
	0x27b70a85, 0x2e1b2138, 0x4d2c6dfc, 0x53380d13, 0x650a7354, 0x766a0abb, 0x81c2c92e, 0x92722c85,
	0xa2bfe8a1, 0xa81a664b, 0xc24b8b70, 0xc76c51a3, 0xd192e819, 0xd6990624, 0xf40e3585, 0x106aa070,
	0x19a4c116, 0x1e376c08, 0x2748774c, 0x34b0bcb5, 0x391c0cb3, 0x4ed8aa4a, 0x5b9cca4f, 0x682e6ff3,
	0x748f82ee, 0x78a5636f, 0x84c87814, 0x8cc70208, 0x90befffa, 0xa4506ceb, 0xbef9a3f7, 0xc67178f2,
}

// Hash takes bytes; of rest those count that make no whole block yet.
type Hash struct {
	state [8]uint32
	rest  [size]byte
	taken uint64
}

// New is a hash that has taken nothing.
func New() *Hash {
	return &Hash{state: [8]uint32{
		0x6a09e667, 0xbb67ae85, 0x3c6ef372, 0xa54ff53a, 0x510e527f, 0x9b05688c, 0x1f83d9ab, 0x5be0cd19,
	}}
}

// Write takes bytes.
func (h *Hash) Write(b []byte) {
	if h == nil {
		return
	}
	fill := int(h.taken % size)
	h.taken += uint64(len(b))
	if fill > 0 {
		n := copy(h.rest[fill:], b)
		if fill+n < size {
			return
		}
		h.state = mix(h.state, h.rest[:])
		b = b[n:]
	}
	for len(b) >= size {
		h.state = mix(h.state, b[:size])
		b = b[size:]
	}
	copy(h.rest[:], b)
}

// Sum is the sum of all that was taken.
func (h *Hash) Sum() api.Digest {
	if h == nil {
		return New().Sum()
	}
	// The end is written into a copy: the hash itself may take more.
	c := *h
	var end [size + 8]byte
	end[0] = 128
	zeros := int((119 - h.taken%size) % size)
	for i := range 8 {
		end[1+zeros+i] = byte(h.taken << 3 >> (56 - 8*i))
	}
	c.Write(end[:9+zeros])
	var d api.Digest
	for i := range 32 {
		d[i] = byte(c.state[i/4] >> (24 - 8*(i%4)))
	}
	return d
}

// Len is how many bytes were taken.
func (h *Hash) Len() uint64 {
	if h == nil {
		return 0
	}
	return h.taken
}

// Copy is a hash that is the same.
func (h *Hash) Copy() *Hash {
	if h == nil {
		return nil
	}
	c := *h
	return &c
}

// Sum is the sum of bytes.
func Sum(b []byte) api.Digest {
	h := New()
	h.Write(b)
	return h.Sum()
}

// turned is x with its bits moved n places down, round the end.
func turned(x uint32, n int) uint32 { return bits.RotateLeft32(x, -n) }

// words are the 64 words of a block.
func words(block []byte) [64]uint32 {
	var w [64]uint32
	for i := range 16 {
		b := block[4*i : 4*i+4]
		w[i] = uint32(b[0])<<24 | uint32(b[1])<<16 | uint32(b[2])<<8 | uint32(b[3])
	}
	for i := range 48 {
		x, y := w[i+1], w[i+14]
		s := turned(x, 7) ^ turned(x, 18) ^ x>>3
		t := turned(y, 17) ^ turned(y, 19) ^ y>>10
		w[i+16] = w[i] + s + w[i+9] + t
	}
	return w
}

// mix is the state behind a block.
func mix(state [8]uint32, block []byte) [8]uint32 {
	w := words(block)
	a, b, c, d := state[0], state[1], state[2], state[3]
	e, f, g, h := state[4], state[5], state[6], state[7]
	for i := range 64 {
		t := h + (turned(e, 6) ^ turned(e, 11) ^ turned(e, 25)) + (e&f ^ ^e&g) + cubes[i] + w[i]
		u := (turned(a, 2) ^ turned(a, 13) ^ turned(a, 22)) + (a&b ^ a&c ^ b&c)
		h, g, f, e = g, f, e, d+t
		d, c, b, a = c, b, a, t+u
	}
	return [8]uint32{
		state[0] + a, state[1] + b, state[2] + c, state[3] + d,
		state[4] + e, state[5] + f, state[6] + g, state[7] + h,
	}
}
