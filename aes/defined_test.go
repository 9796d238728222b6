package aes_test

import "slices"

// The functions of this file follow the definitions of the chapter, byte by byte.

// product returns the product of two bytes as polynomials.
func product(a, b byte) byte {
	whole := 0
	for i := range 8 {
		if b>>i&1 == 1 {
			whole ^= int(a) << i
		}
	}
	for i := 14; i >= 8; i-- {
		if whole>>i&1 == 1 {
			whole ^= 0x11b << (i - 8)
		}
	}
	return byte(whole)
}

// reciprocal returns the byte whose product with b is 1, and 0 for 0.
func reciprocal(b byte) byte {
	for c := range 256 {
		if product(b, byte(c)) == 1 {
			return byte(c)
		}
	}
	return 0
}

// calculated returns the substitute of a byte by its bits.
func calculated(b byte) byte {
	c := reciprocal(b)
	var s byte
	for i := range 8 {
		bit := byte(0x63) >> i & 1
		for _, j := range []int{i, i + 4, i + 5, i + 6, i + 7} {
			bit ^= c >> (j % 8) & 1
		}
		s |= bit << i
	}
	return s
}

// allCalculated returns the substitutes of all bytes.
func allCalculated() []byte {
	list := make([]byte, 256)
	for i := range list {
		list[i] = calculated(byte(i))
	}
	return list
}

// sBox are the substitutes of all bytes, and inverseBox the bytes with all substitutes.
var sBox, inverseBox = boxes()

func boxes() (forward, backward []byte) {
	forward, backward = allCalculated(), make([]byte, 256)
	for b, s := range forward {
		backward[s] = byte(b)
	}
	return forward, backward
}

// replacedBy returns the bytes that a table has for the bytes of a string.
func replacedBy(table, b []byte) []byte {
	list := make([]byte, len(b))
	for i := range b {
		list[i] = table[b[i]]
	}
	return list
}

// sumOf returns the exclusive or of two strings.
func sumOf(a, b []byte) []byte {
	list := slices.Clone(a)
	for i := range list {
		list[i] ^= b[i]
	}
	return list
}

// shifted moves each byte of a block by its row, by steps of some columns.
func shifted(b []byte, step int) []byte {
	list := make([]byte, 16)
	for c := range 4 {
		for r := range 4 {
			list[4*c+r] = b[4*((c+step*r)%4)+r]
		}
	}
	return list
}

// mixed returns the columns of a block as sums of products, whose first row has the given factors.
func mixed(b []byte, factors [4]byte) []byte {
	list := make([]byte, 16)
	for i := range list {
		column, row := i/4, i%4
		for j := range 4 {
			list[i] ^= product(factors[(j-row+4)%4], b[4*column+j])
		}
	}
	return list
}

// definedKeys returns the round keys of a key.
func definedKeys(key []byte) [][]byte {
	words := slices.Collect(slices.Chunk(slices.Clone(key), 4))
	power := byte(1)
	for i := 4; i < 44; i++ {
		other := words[i-1]
		if i%4 == 0 {
			other = replacedBy(sBox, append(slices.Clone(other[1:]), other[0]))
			other[0] ^= power
			power = product(power, 2)
		}
		words = append(words, sumOf(words[i-4], other))
	}
	var keys [][]byte
	for four := range slices.Chunk(words, 4) {
		keys = append(keys, slices.Concat(four...))
	}
	return keys
}

// definedEncrypt returns an encrypted block.
func definedEncrypt(key, b []byte) []byte {
	keys := definedKeys(key)
	b = sumOf(b, keys[0])
	for i := 1; i <= 10; i++ {
		b = shifted(replacedBy(sBox, b), 1)
		if i < 10 {
			b = mixed(b, [4]byte{2, 3, 1, 1})
		}
		b = sumOf(b, keys[i])
	}
	return b
}

// definedDecrypt undoes the operations of definedEncrypt, from the last one on.
func definedDecrypt(key, b []byte) []byte {
	keys := definedKeys(key)
	for i := 10; i >= 1; i-- {
		b = sumOf(b, keys[i])
		if i < 10 {
			b = mixed(b, [4]byte{14, 11, 13, 9})
		}
		b = replacedBy(inverseBox, shifted(b, 3))
	}
	return sumOf(b, keys[0])
}
