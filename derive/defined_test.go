package derive_test

import (
	"crypto/hmac"
	"crypto/sha256"
	"encoding/binary"
	"math/rand/v2"
)

// random returns a string of any bytes, the same one in every run for a number.
func random(n, number int) []byte {
	r := rand.New(rand.NewPCG(uint64(n), uint64(number)))
	b := make([]byte, n)
	for i := range b {
		b[i] = byte(r.Uint32())
	}
	return b
}

// number4 returns a number in 4 bytes.
func number4(n int) []byte { return binary.BigEndian.AppendUint32(nil, uint32(n)) }

// keyedHash returns the keyed hash of parts by the library.
func keyedHash(key []byte, parts ...[]byte) []byte {
	h := hmac.New(sha256.New, key)
	for _, part := range parts {
		h.Write(part)
	}
	return h.Sum(nil)
}

// definedBlocks returns the blocks that n derived bytes need, as the chapter defines them.
func definedBlocks(key, label, context []byte, n int) [][]byte {
	var list [][]byte
	for i := 1; 32*len(list) < n; i++ {
		list = append(list, keyedHash(key, number4(i), label, []byte{0}, context, number4(8*n)))
	}
	return list
}

// definedKDF returns derived bytes, as the chapter defines them.
func definedKDF(key, label, context []byte, n int) []byte {
	var b []byte
	for _, block := range definedBlocks(key, label, context, n) {
		b = append(b, block...)
	}
	return b[:n]
}

// definedPassword returns the key of a password, as the chapter defines it.
func definedPassword(password, salt []byte, iterations, n int) []byte {
	var b []byte
	for i := 1; len(b) < n; i++ {
		u := keyedHash(password, salt, number4(i))
		total := append(b, u...)
		for range iterations - 1 {
			u = keyedHash(password, u)
			for j, value := range u {
				total[len(b)+j] ^= value
			}
		}
		b = total
	}
	return b[:n]
}
