package aes

import "math/bits"

const (
	wordsOfBlock = 4
	bytesOfWord  = 4
	bitsOfByte   = 8
)

// block is a block as its columns, words in which the first byte is the most significant one.
type block [wordsOfBlock]uint32

// blockOf returns the block of 16 bytes.
func blockOf(b []byte) block {
	var columns block
	for i, value := range b {
		column := &columns[i/bytesOfWord]
		*column = *column<<bitsOfByte | uint32(value)
	}
	return columns
}

// bytes returns the bytes of a block.
func (b *block) bytes() []byte {
	list := make([]byte, 0, BlockLen)
	for _, column := range b {
		list = append(list, byte(column>>24), byte(column>>16), byte(column>>8), byte(column))
	}
	return list
}

// change replaces each column.
func (b *block) change(replaced func(column uint32) uint32) {
	for i, column := range b {
		b[i] = replaced(column)
	}
}

// add combines a block with a round key.
func (b *block) add(key block) {
	for i := range b {
		b[i] ^= key[i]
	}
}

// shift is an operation of a round.
func (b *block) shift() { b.shiftBy(1) }

// unshift is the inverse of shift. Four shifts change nothing.
func (b *block) unshift() { b.shiftBy(wordsOfBlock - 1) }

// shiftBy does as many shifts at once: byte r of a column comes from r times as many columns further on.
func (b *block) shiftBy(times int) {
	old := *b
	for c := range b {
		from := func(r int) uint32 { return old[(c+r*times)%wordsOfBlock] }
		b[c] = from(0)&0xFF000000 | from(1)&0xFF0000 | from(2)&0xFF00 | from(3)&0xFF
	}
}

// mix is an operation of a round.
func (b *block) mix() {
	b.change(func(column uint32) uint32 {
		twice := doubled(column)
		return twice ^ movedForward(twice^column, 1) ^ movedForward(column, 2) ^ movedForward(column, 3)
	})
}

// unmix is the inverse of mix. As four mixings change nothing, it is three of them, of which the first two are done at once:
// they give 5 a + 4 c, 5 b + 4 d, 4 a + 5 c, 4 b + 5 d for a column a, b, c, d.
func (b *block) unmix() {
	b.change(func(column uint32) uint32 {
		return column ^ doubled(doubled(column^movedForward(column, 2)))
	})
	b.mix()
}

// movedForward returns a word whose bytes are moved to the front by some places, where the first ones come last.
func movedForward(word uint32, places int) uint32 {
	return bits.RotateLeft32(word, bitsOfByte*places)
}

// doubled returns the products of 2 and the bytes of a word.
func doubled(word uint32) uint32 {
	const highest = 0x80808080
	over := word & highest >> (bitsOfByte - 1) // 1 in each byte whose product has the degree 8
	return word&^highest<<1 ^ over*0x1B
}

// state is a block during its operations, with the table that they use.
type state struct {
	block
	*table
}

// substitute is an operation of a round.
func (s *state) substitute() { s.change(s.substitutes) }

// restore is the inverse of substitute.
func (s *state) restore() { s.change(s.originals) }

// run performs operations one after the other.
func run(operations ...func()) {
	for _, operation := range operations {
		operation()
	}
}
