package cts

import (
	"iter"
	"slices"

	"watchword/aes"
	"watchword/api"
)

// block is a block of a string.
type block [aes.BlockLen]byte

// combine combines a block with the bytes of another one by exclusive or.
func (b *block) combine(other []byte) {
	for i, value := range other {
		b[i] ^= value
	}
}

// mode is the cipher with a key, and the block that stands before the first chained one.
type mode struct {
	*aes.Cipher
	iv block
}

// newMode returns the mode with a key and an IV. It keeps neither of them.
func newMode(key, iv []byte) (*mode, api.Errno) {
	c, e := aes.New(key)
	if e != api.OK {
		return nil, e
	}
	if len(iv) != aes.BlockLen {
		return nil, api.ErrArg
	}
	return &mode{c, block(iv)}, api.OK
}

// chain returns an iterator over the chained blocks of blocks.
func (m *mode) chain(blocks iter.Seq[[]byte]) iter.Seq[[]byte] {
	return func(yield func([]byte) bool) {
		state := m.iv
		for b := range blocks {
			if len(b) != aes.BlockLen {
				return
			}
			state.combine(b)
			c, _ := m.Encrypt(state[:])
			state = block(c) // a copy, as the loop may write to c
			if !yield(c) {
				return
			}
		}
	}
}

// encrypt returns the ciphertext of a string.
func (m *mode) encrypt(plain []byte) []byte {
	whole := completed(plain)
	chained := make([]byte, 0, len(whole))
	for c := range m.chain(blocksOf(whole)) {
		chained = append(chained, c...)
	}
	changeEnd(chained, func(before, last *block) { *before, *last = *last, *before })
	return chained[:len(plain):len(plain)]
}

// decrypt returns the string with a ciphertext.
func (m *mode) decrypt(cipher []byte) []byte {
	chained := completed(cipher)
	changeEnd(chained, func(before, last *block) {
		// What was cut off had been combined with bytes 0, so that decrypting the block after it shows it again.
		combined, _ := m.Decrypt(before[:])
		kept := aes.BlockLen - (len(chained) - len(cipher))
		copy(last[kept:], combined[kept:])
		*before, *last = *last, *before
	})
	plain := make([]byte, 0, len(chained))
	state := m.iv
	for c := range blocksOf(chained) {
		combined, _ := m.Decrypt(c)
		state.combine(combined)
		plain = append(plain, state[:]...)
		state = block(c)
	}
	return plain[:len(cipher):len(cipher)]
}

// completed returns a copy of a string, followed by as many bytes 0 as its last block lacks.
func completed(text []byte) []byte {
	blocks := (len(text) + aes.BlockLen - 1) / aes.BlockLen
	whole := make([]byte, blocks*aes.BlockLen)
	copy(whole, text)
	return whole
}

// blocksOf returns an iterator over the blocks of a string of complete ones.
func blocksOf(whole []byte) iter.Seq[[]byte] { return slices.Chunk(whole, aes.BlockLen) }

// changeEnd changes the last two blocks of a string of complete ones, if there are two.
func changeEnd(whole []byte, change func(before, last *block)) {
	middle := len(whole) - aes.BlockLen
	start := middle - aes.BlockLen
	if start < 0 {
		return
	}
	change((*block)(whole[start:middle:middle]), (*block)(whole[middle:]))
}
