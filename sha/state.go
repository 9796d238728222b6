package sha

import "math/bits"

const (
	wordSize = 4  // bytes of a word
	rounds   = 64 // of a block
)

// constants are the words K0 to K63, one for each round.
var constants = [rounds]uint32{
	0x428A2F98, 0x71374491, 0xB5C0FBCF, 0xE9B5DBA5, 0x3956C25B, 0x59F111F1, 0x923F82A4, 0xAB1C5ED5,
	0xD807AA98, 0x12835B01, 0x243185BE, 0x550C7DC3, 0x72BE5D74, 0x80DEB1FE, 0x9BDC06A7, 0xC19BF174,
	0xE49B69C1, 0xEFBE4786, 0x0FC19DC6, 0x240CA1CC, 0x2DE92C6F, 0x4A7484AA, 0x5CB0A9DC, 0x76F988DA,
	0x983E5152, 0xA831C66D, 0xB00327C8, 0xBF597FC7, 0xC6E00BF3, 0xD5A79147, 0x06CA6351, 0x14292967,
	0x27B70A85, 0x2E1B2138, 0x4D2C6DFC, 0x53380D13, 0x650A7354, 0x766A0ABB, 0x81C2C92E, 0x92722C85,
	0xA2BFE8A1, 0xA81A664B, 0xC24B8B70, 0xC76C51A3, 0xD192E819, 0xD6990624, 0xF40E3585, 0x106AA070,
	0x19A4C116, 0x1E376C08, 0x2748774C, 0x34B0BCB5, 0x391C0CB3, 0x4ED8AA4A, 0x5B9CCA4F, 0x682E6FF3,
	0x748F82EE, 0x78A5636F, 0x84C87814, 0x8CC70208, 0x90BEFFFA, 0xA4506CEB, 0xBEF9A3F7, 0xC67178F2,
}

// state is what blocks have added to the words of the hash, so that its zero value is the state before the first block.
type state [8]uint32

// plus returns a state to which words have been added.
func (s state) plus(words [8]uint32) state {
	for i, w := range words {
		s[i] += w
	}
	return s
}

// words returns the words H0 to H7 of the hash.
func (s state) words() state {
	return s.plus([8]uint32{0x6A09E667, 0xBB67AE85, 0x3C6EF372, 0xA54FF53A, 0x510E527F, 0x9B05688C, 0x1F83D9AB, 0x5BE0CD19})
}

// absorb changes the words by a block.
func (s *state) absorb(block []byte) {
	choice := func(x, y, z uint32) uint32 { return x&y ^ ^x&z }
	majority := func(x, y, z uint32) uint32 { return x&y ^ x&z ^ y&z }
	turnA, turnE := rotations(2, 13, 22), rotations(6, 11, 25)
	v := s.words()
	a, b, c, d, e, f, g, h := v[0], v[1], v[2], v[3], v[4], v[5], v[6], v[7]
	for t, w := range schedule(block) {
		t1 := h + turnE(e) + choice(e, f, g) + constants[t] + w
		t2 := turnA(a) + majority(a, b, c)
		h, g, f, e, d, c, b, a = g, f, e, d+t1, c, b, a, t1+t2
	}
	*s = s.plus([8]uint32{a, b, c, d, e, f, g, h})
}

// schedule returns the words W0 to W63 of a block, one for each round.
func schedule(block []byte) [rounds]uint32 {
	var w [rounds]uint32
	for i, b := range block {
		w[i/wordSize] = w[i/wordSize]<<byteBits | uint32(b)
	}
	turn0, turn1 := rotations(7, 18), rotations(17, 19)
	mix0 := func(x uint32) uint32 { return turn0(x) ^ x>>3 }
	mix1 := func(x uint32) uint32 { return turn1(x) ^ x>>10 }
	for t := len(block) / wordSize; t < rounds; t++ {
		w[t] = mix1(w[t-2]) + w[t-7] + mix0(w[t-15]) + w[t-16]
	}
	return w
}

// rotations returns the function that joins some rotations of a word by exclusive or. Each rotates it to the right by a number of places.
func rotations(places ...int) func(uint32) uint32 {
	return func(x uint32) uint32 {
		var joined uint32
		for _, n := range places {
			joined ^= bits.RotateLeft32(x, -n)
		}
		return joined
	}
}

// finish returns the hash of a padded string, of which the blocks in front of b have been absorbed:
// b is what is left of the string, and n is the number of bytes of all of it.
func (s state) finish(b []byte, n int) [Size]byte {
	for block := range padded(b, n) {
		s.absorb(block)
	}
	var sum [Size]byte
	for i, w := range s.words() {
		for j := range wordSize {
			sum[wordSize*i+j] = byte(w >> (byteBits * (wordSize - 1 - j)))
		}
	}
	return sum
}
