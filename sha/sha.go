// Package sha is layer 1: SHA-256 (FIPS 180-4).
package sha

import "math/bits"

// blockSize is how many bytes the state is mixed with at a time.
const blockSize = 64

// lengthSize is how many bytes at the end of the last block tell the text's length.
const lengthSize = 8

// start is the state ahead of the first block: of the square roots of the first 8 primes the first 32 bits behind the point.
var start = [8]uint32{
	0x6a09e667, 0xbb67ae85, 0x3c6ef372, 0xa54ff53a, 0x510e527f, 0x9b05688c, 0x1f83d9ab, 0x5be0cd19,
}

// rounds has a word for each round: of the cube roots of the first 64 primes the first 32 bits behind the point.
var rounds = [64]uint32{
	0x428a2f98, 0x71374491, 0xb5c0fbcf, 0xe9b5dba5, 0x3956c25b, 0x59f111f1, 0x923f82a4, 0xab1c5ed5,
	0xd807aa98, 0x12835b01, 0x243185be, 0x550c7dc3, 0x72be5d74, 0x80deb1fe, 0x9bdc06a7, 0xc19bf174,
	0xe49b69c1, 0xefbe4786, 0x0fc19dc6, 0x240ca1cc, 0x2de92c6f, 0x4a7484aa, 0x5cb0a9dc, 0x76f988da,
	0x983e5152, 0xa831c66d, 0xb00327c8, 0xbf597fc7, 0xc6e00bf3, 0xd5a79147, 0x06ca6351, 0x14292967,
	0x27b70a85, 0x2e1b2138, 0x4d2c6dfc, 0x53380d13, 0x650a7354, 0x766a0abb, 0x81c2c92e, 0x92722c85,
	0xa2bfe8a1, 0xa81a664b, 0xc24b8b70, 0xc76c51a3, 0xd192e819, 0xd6990624, 0xf40e3585, 0x106aa070,
	0x19a4c116, 0x1e376c08, 0x2748774c, 0x34b0bcb5, 0x391c0cb3, 0x4ed8aa4a, 0x5b9cca4f, 0x682e6ff3,
	0x748f82ee, 0x78a5636f, 0x84c87814, 0x8cc70208, 0x90befffa, 0xa4506ceb, 0xbef9a3f7, 0xc67178f2,
}

// Sum is the SHA-256 of b.
func Sum(b []byte) [32]byte {
	var s Sha
	s.Write(b)
	return s.Sum()
}

// Sha sums a text that comes in parts. Its zero value was told nothing.
type Sha struct {
	state  [8]uint32       // behind all whole blocks; start, as long as length is 0
	tail   [blockSize]byte // its first length % blockSize bytes wait for their block to be whole
	length int             // how many bytes it was told
}

// New is a Sha that was told nothing.
func New() *Sha { return &Sha{} }

// Write tells it b, behind all that it was told.
func (s *Sha) Write(b []byte) {
	// Set here, and not by New alone, so that a zero Sha sums rightly too.
	if s.length == 0 {
		s.state = start
	}
	held := s.length % blockSize
	s.length += len(b)
	if held > 0 {
		n := copy(s.tail[held:], b)
		if held+n < blockSize {
			return
		}
		s.state = mix(s.state, s.tail[:])
		b = b[n:]
	}
	for len(b) >= blockSize {
		s.state = mix(s.state, b[:blockSize])
		b = b[blockSize:]
	}
	copy(s.tail[:], b)
}

// Sum is the SHA-256 of all that it was told.
func (s *Sha) Sum() [32]byte {
	// The padding goes to a copy: s may be told more.
	end := *s
	end.Write(padding(s.length))
	var sum [32]byte
	for i, w := range end.state {
		putWord(sum[4*i:], w)
	}
	return sum
}

// Len is how many bytes it was told.
func (s *Sha) Len() int { return s.length }

// padding is what makes a text of so many bytes whole blocks: a one bit, noughts, the length in bits.
func padding(length int) []byte {
	used := (length%blockSize + 1 + lengthSize) % blockSize
	noughts := (blockSize - used) % blockSize
	pad := make([]byte, 1+noughts+lengthSize)
	pad[0] = 0x80
	count := uint64(length) * 8
	putWord(pad[1+noughts:], uint32(count>>32))
	putWord(pad[1+noughts+4:], uint32(count))
	return pad
}

// mix is the state behind one block more.
func mix(state [8]uint32, block []byte) [8]uint32 {
	words := schedule(block)
	a, b, c, d := state[0], state[1], state[2], state[3]
	e, f, g, h := state[4], state[5], state[6], state[7]
	for i, w := range words {
		high := bits.RotateLeft32(e, -6) ^ bits.RotateLeft32(e, -11) ^ bits.RotateLeft32(e, -25)
		choice := e&f ^ ^e&g
		one := h + high + choice + rounds[i] + w
		low := bits.RotateLeft32(a, -2) ^ bits.RotateLeft32(a, -13) ^ bits.RotateLeft32(a, -22)
		most := a&b ^ a&c ^ b&c
		two := low + most
		h, g, f, e = g, f, e, d+one
		d, c, b, a = c, b, a, one+two
	}
	return [8]uint32{
		state[0] + a, state[1] + b, state[2] + c, state[3] + d,
		state[4] + e, state[5] + f, state[6] + g, state[7] + h,
	}
}

// schedule stretches a block's 16 words to one for each round.
func schedule(block []byte) [64]uint32 {
	var words [64]uint32
	for i := range 16 {
		words[i] = word(block[4*i:])
	}
	for i := 16; i < len(words); i++ {
		far, near := words[i-15], words[i-2]
		first := bits.RotateLeft32(far, -7) ^ bits.RotateLeft32(far, -18) ^ far>>3
		second := bits.RotateLeft32(near, -17) ^ bits.RotateLeft32(near, -19) ^ near>>10
		words[i] = words[i-16] + first + words[i-7] + second
	}
	return words
}

// word reads a word of b's first 4 bytes, the highest first.
func word(b []byte) uint32 {
	return uint32(b[0])<<24 | uint32(b[1])<<16 | uint32(b[2])<<8 | uint32(b[3])
}

// putWord writes a word as b's first 4 bytes, the highest first.
func putWord(b []byte, w uint32) {
	b[0], b[1], b[2], b[3] = byte(w>>24), byte(w>>16), byte(w>>8), byte(w)
}
