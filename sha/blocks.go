package sha

import "iter"

const (
	blockSize  = 64   // bytes of a block
	lengthSize = 8    // bytes of the length at the end of a padded string
	endMark    = 0x80 // the byte behind the string
	byteBits   = 8
)

// whole returns an iterator over the whole blocks of a string.
func whole(b []byte) iter.Seq[[]byte] {
	return func(yield func([]byte) bool) {
		for left := b; len(left) >= blockSize; left = left[blockSize:] {
			if !yield(left[:blockSize:blockSize]) {
				return
			}
		}
	}
}

// rest returns the bytes of a string behind its whole blocks.
func rest(b []byte) []byte { return b[len(b)-len(b)%blockSize:] }

// padded returns an iterator over the blocks of a padded string, from any block on:
// b is what is left of the string from there on, and n is the number of bytes of all of it.
func padded(b []byte, n int) iter.Seq[[]byte] {
	return func(yield func([]byte) bool) {
		for block := range whole(b) {
			if !yield(block) {
				return
			}
		}
		for block := range whole(ending(rest(b), n)) {
			if !yield(block) {
				return
			}
		}
	}
}

// ending returns the last block, or the last two, of a padded string of n bytes: the rest of the string and the padding.
func ending(rest []byte, n int) []byte {
	end := make([]byte, 0, 2*blockSize)
	end = append(append(end, rest...), endMark)
	for len(end)%blockSize != blockSize-lengthSize {
		end = append(end, 0)
	}
	count := uint64(n) * byteBits
	for i := range lengthSize {
		end = append(end, byte(count>>(byteBits*(lengthSize-1-i))))
	}
	return end
}
