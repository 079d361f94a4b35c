package digest

import (
	"math/bits"

	"graft/api"
)

// blockSize is how many bytes SHA-256 mixes at a time.
const blockSize = 64

// lengthAt is where the message's length stands in its last block.
const lengthAt = blockSize - 8

// startState is of the square roots of the first 8 primes: 1.1 says how.
var startState = [8]uint32{
	0x6a09e667, 0xbb67ae85, 0x3c6ef372, 0xa54ff53a, 0x510e527f, 0x9b05688c, 0x1f83d9ab, 0x5be0cd19,
}

// roundConstants is of the cube roots of the first 64 primes.
var roundConstants = [64]uint32{
	0x428a2f98, 0x71374491, 0xb5c0fbcf, 0xe9b5dba5, 0x3956c25b, 0x59f111f1, 0x923f82a4, 0xab1c5ed5,
	0xd807aa98, 0x12835b01, 0x243185be, 0x550c7dc3, 0x72be5d74, 0x80deb1fe, 0x9bdc06a7, 0xc19bf174,
	0xe49b69c1, 0xefbe4786, 0x0fc19dc6, 0x240ca1cc, 0x2de92c6f, 0x4a7484aa, 0x5cb0a9dc, 0x76f988da,
	0x983e5152, 0xa831c66d, 0xb00327c8, 0xbf597fc7, 0xc6e00bf3, 0xd5a79147, 0x06ca6351, 0x14292967,
	0x27b70a85, 0x2e1b2138, 0x4d2c6dfc, 0x53380d13, 0x650a7354, 0x766a0abb, 0x81c2c92e, 0x92722c85,
	0xa2bfe8a1, 0xa81a664b, 0xc24b8b70, 0xc76c51a3, 0xd192e819, 0xd6990624, 0xf40e3585, 0x106aa070,
	0x19a4c116, 0x1e376c08, 0x2748774c, 0x34b0bcb5, 0x391c0cb3, 0x4ed8aa4a, 0x5b9cca4f, 0x682e6ff3,
	0x748f82ee, 0x78a5636f, 0x84c87814, 0x8cc70208, 0x90befffa, 0xa4506ceb, 0xbef9a3f7, 0xc67178f2,
}

// begin lays the first state down, so that a Hasher that has taken nothing needs none.
func (h *Hasher) begin() {
	if h.length == 0 {
		h.state = startState
	}
}

// pad takes the padding of 1.1 in; the hasher is of no use behind it, but for its state.
func (h *Hasher) pad() {
	used := h.length % blockSize
	h.rest[used] = 0x80
	clear(h.rest[used+1:])
	if used >= lengthAt {
		h.state = mix(h.state, h.rest[:])
		clear(h.rest[:])
	}
	// Of 2^60 bytes the number of bits is 2^63, which an int doesn't hold.
	length := uint64(h.length) * 8
	for i := range 8 {
		h.rest[lengthAt+i] = byte(length >> (56 - 8*i))
	}
	h.state = mix(h.state, h.rest[:])
}

// mix is the state behind one more block.
func mix(state [8]uint32, block []byte) [8]uint32 {
	words := spread(block)
	a, b, c, d := state[0], state[1], state[2], state[3]
	e, f, g, h := state[4], state[5], state[6], state[7]
	for t, w := range words {
		x := h + turns(e, 6, 11, 25) + (e&f ^ ^e&g) + roundConstants[t] + w
		y := turns(a, 2, 13, 22) + (a&b ^ a&c ^ b&c)
		h, g, f, e, d, c, b, a = g, f, e, d+x, c, b, a, x+y
	}
	state[0] += a
	state[1] += b
	state[2] += c
	state[3] += d
	state[4] += e
	state[5] += f
	state[6] += g
	state[7] += h
	return state
}

// spread is a block's 16 words, and the 48 that are made of them.
func spread(block []byte) [64]uint32 {
	var w [64]uint32
	for t := range 16 {
		p := block[4*t : 4*t+4]
		w[t] = uint32(p[0])<<24 | uint32(p[1])<<16 | uint32(p[2])<<8 | uint32(p[3])
	}
	for t := 16; t < len(w); t++ {
		a, b := w[t-15], w[t-2]
		w[t] = w[t-16] + (right(a, 7) ^ right(a, 18) ^ a>>3) + w[t-7] + (right(b, 17) ^ right(b, 19) ^ b>>10)
	}
	return w
}

// turns is the XOR of a word turned right in three ways.
func turns(x uint32, i, j, k int) uint32 { return right(x, i) ^ right(x, j) ^ right(x, k) }

// right is a word turned right by n places.
func right(x uint32, n int) uint32 { return bits.RotateLeft32(x, -n) }

// sumOfState is a state's bytes, each number's highest first.
func sumOfState(state [8]uint32) api.Sum {
	var s api.Sum
	for i, x := range state {
		s[4*i] = byte(x >> 24)
		s[4*i+1] = byte(x >> 16)
		s[4*i+2] = byte(x >> 8)
		s[4*i+3] = byte(x)
	}
	return s
}
