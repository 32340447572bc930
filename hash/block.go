package hash

import (
	"math/bits"

	"escrow/api"
)

// rounds is the round constants: what stands behind the point of the first 64 primes' cube roots.
var rounds = [64]uint32{
	0x428a2f98, 0x71374491, 0xb5c0fbcf, 0xe9b5dba5, 0x3956c25b, 0x59f111f1, 0x923f82a4, 0xab1c5ed5,
	0xd807aa98, 0x12835b01, 0x243185be, 0x550c7dc3, 0x72be5d74, 0x80deb1fe, 0x9bdc06a7, 0xc19bf174,
	0xe49b69c1, 0xefbe4786, 0x0fc19dc6, 0x240ca1cc, 0x2de92c6f, 0x4a7484aa, 0x5cb0a9dc, 0x76f988da,
	0x983e5152, 0xa831c66d, 0xb00327c8, 0xbf597fc7, 0xc6e00bf3, 0xd5a79147, 0x06ca6351, 0x14292967,
	0x27b70a85, 0x2e1b2138, 0x4d2c6dfc, 0x53380d13, 0x650a7354, 0x766a0abb, 0x81c2c92e, 0x92722c85,
	0xa2bfe8a1, 0xa81a664b, 0xc24b8b70, 0xc76c51a3, 0xd192e819, 0xd6990624, 0xf40e3585, 0x106aa070,
	0x19a4c116, 0x1e376c08, 0x2748774c, 0x34b0bcb5, 0x391c0cb3, 0x4ed8aa4a, 0x5b9cca4f, 0x682e6ff3,
	0x748f82ee, 0x78a5636f, 0x84c87814, 0x8cc70208, 0x90befffa, 0xa4506ceb, 0xbef9a3f7, 0xc67178f2,
}

// first is the first state: what stands behind the point of the first 8 primes' square roots.
var first = [8]uint32{
	0x6a09e667, 0xbb67ae85, 0x3c6ef372, 0xa54ff53a, 0x510e527f, 0x9b05688c, 0x1f83d9ab, 0x5be0cd19,
}

// sum is a SHA-256 under way. The parts go through one block's room, so that they need not be laid together first.
type sum struct {
	state [8]uint32
	block [64]byte
	n     uint64 // bytes taken so far; the last n modulo 64 of them stand in block
}

// take goes on by a text.
func (s *sum) take(text string) {
	for len(text) > 0 {
		k := copy(s.block[s.n%64:], text)
		text = text[k:]
		s.n += uint64(k)
		if s.n%64 == 0 {
			s.state = turned(s.state, s.block)
		}
	}
}

// pad goes on by what stands behind a padded text.
func (s *sum) pad() {
	bitCount := s.n * 8 // ahead of the padding, which take counts too
	s.take("\x80")
	for s.n%64 != 56 {
		s.take("\x00")
	}
	var b [8]byte
	for i := range b {
		b[i] = byte(bitCount >> (56 - 8*i))
	}
	s.take(string(b[:]))
}

// told is the state's bytes.
func (s *sum) told() api.Hash {
	var h api.Hash
	for i, x := range s.state {
		h[4*i] = byte(x >> 24)
		h[4*i+1] = byte(x >> 16)
		h[4*i+2] = byte(x >> 8)
		h[4*i+3] = byte(x)
	}
	return h
}

// turned is what a block makes of a state.
func turned(state [8]uint32, block [64]byte) [8]uint32 {
	w := words(block)
	a, b, c, d := state[0], state[1], state[2], state[3]
	e, f, g, h := state[4], state[5], state[6], state[7]
	for t := range w {
		u := h + (rot(e, 6) ^ rot(e, 11) ^ rot(e, 25)) + (e&f ^ ^e&g) + rounds[t] + w[t]
		v := (rot(a, 2) ^ rot(a, 13) ^ rot(a, 22)) + (a&b ^ a&c ^ b&c)
		h, g, f, e = g, f, e, d+u
		d, c, b, a = c, b, a, u+v
	}
	for i, x := range [8]uint32{a, b, c, d, e, f, g, h} {
		state[i] += x
	}
	return state
}

// words is a block's sixteen words and the 48 that grow out of them.
func words(block [64]byte) [64]uint32 {
	var w [64]uint32
	for t := range 16 {
		b := block[4*t : 4*t+4]
		w[t] = uint32(b[0])<<24 | uint32(b[1])<<16 | uint32(b[2])<<8 | uint32(b[3])
	}
	for t := 16; t < len(w); t++ {
		x, y := w[t-15], w[t-2]
		s0 := rot(x, 7) ^ rot(x, 18) ^ x>>3
		s1 := rot(y, 17) ^ rot(y, 19) ^ y>>10
		w[t] = w[t-16] + s0 + w[t-7] + s1
	}
	return w
}

// rot is x, turned right by n bits.
func rot(x uint32, n int) uint32 { return bits.RotateLeft32(x, -n) }
