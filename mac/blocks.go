package mac

import "watchword/sha"

const (
	blockSize = 64   // bytes of a key block
	maskA     = 0x5C // with which each byte of the block A is combined
	maskB     = 0x36 // likewise of the block B
)

// keyBlocks are the blocks A and B of a key.
type keyBlocks struct{ a, b [blockSize]byte }

// blocksOf returns the blocks of a key.
func blocksOf(key []byte) keyBlocks {
	if len(key) > blockSize {
		sum := sha.Sum(key)
		key = sum[:]
	}
	combined := func(mask byte) [blockSize]byte {
		var block [blockSize]byte
		copy(block[:], key)
		for i := range block {
			block[i] ^= mask
		}
		return block
	}
	return keyBlocks{combined(maskA), combined(maskB)}
}

// haveKey reports whether the blocks are those of a key: its blocks differ in every byte, but zero ones are equal.
func (k *keyBlocks) haveKey() bool { return k.a != k.b }

// begin writes what the inner hash has in front of the string.
func (k *keyBlocks) begin(inner *sha.Hash) { inner.Write(k.b[:]) }

// finish returns the keyed hash of a string whose inner hash is given.
func (k *keyBlocks) finish(inner [sha.Size]byte) [Size]byte {
	var outer sha.Hash
	outer.Write(k.a[:])
	outer.Write(inner[:])
	return outer.Sum()
}
