package cts_test

import (
	"bytes"
	library "crypto/aes"
	"math/rand/v2"
	"slices"
)

// random returns a string of any bytes, the same one in every run for a number.
func random(n, number int) []byte {
	r := rand.New(rand.NewPCG(uint64(n), uint64(number)))
	b := make([]byte, n)
	for i := range b {
		b[i] = byte(r.Uint32())
	}
	return b
}

// split returns the blocks of a string of complete ones.
func split(whole []byte) [][]byte { return slices.Collect(slices.Chunk(whole, 16)) }

// definedChain returns the chained blocks of blocks, as the chapter defines them, with single blocks of the library's cipher.
func definedChain(key, iv []byte, blocks [][]byte) [][]byte {
	cipher, err := library.NewCipher(key)
	if err != nil {
		panic(err)
	}
	var list [][]byte
	before := iv
	for _, p := range blocks {
		c := make([]byte, 16)
		for i := range c {
			c[i] = p[i] ^ before[i]
		}
		cipher.Encrypt(c, c)
		list = append(list, c)
		before = c
	}
	return list
}

// definedEncrypt returns the ciphertext of a string, as the chapter defines it.
func definedEncrypt(key, iv, plain []byte) []byte {
	filled := bytes.Clone(plain)
	for len(filled)%16 != 0 {
		filled = append(filled, 0)
	}
	c := definedChain(key, iv, split(filled))
	if n := len(c); n > 1 {
		c[n-2], c[n-1] = c[n-1], c[n-2]
	}
	return slices.Concat(c...)[:len(plain)]
}
