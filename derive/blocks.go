package derive

import (
	"iter"

	"watchword/mac"
)

// block is a keyed hash.
type block [mac.Size]byte

// secret is a key or a password, of which many keyed hashes are made.
type secret struct {
	empty *mac.Mac // has no bytes; each keyed hash begins with a copy
}

// derivation is a secret with the strings around the number of a block.
type derivation struct {
	secret
	before, after []byte
}

// newDerivation returns a derivation, which keeps the strings before and after the number.
func newDerivation(key, before, after []byte) *derivation {
	empty, _ := mac.New(key) // has no error, as the keys of layer 5 may be as long as strings here
	return &derivation{secret{empty}, before, after}
}

// hash returns the keyed hash of strings, one after the other.
func (d *derivation) hash(strings ...[]byte) block {
	m := d.empty.Copy()
	for _, s := range strings {
		m.Write(s)
	}
	sum, _ := m.Sum()
	return sum
}

// keyed returns the keyed hash of a number between its strings.
func (d *derivation) keyed(number int) block {
	return d.hash(d.before, encoded(number), d.after)
}

// iterated returns a function that makes the blocks of a password.
func (d *derivation) iterated(iterations int) func(number int) block {
	return func(number int) block {
		u := d.keyed(number)
		total := u
		for range iterations - 1 {
			u = d.hash(u[:])
			combine(total[:], u[:])
		}
		return total
	}
}

// combine combines words with others by exclusive or.
func combine[W byte | uint16 | uint32 | uint64](words, others []W) {
	for i, other := range others {
		words[i] ^= other
	}
}

// numbered returns an iterator over the blocks that n bytes need, numbered from 1.
func numbered(n int, made func(number int) block) iter.Seq2[int, []byte] {
	return func(yield func(int, []byte) bool) {
		count := (n + mac.Size - 1) / mac.Size
		for number := 1; number <= count; number++ {
			b := made(number)
			if !yield(number, b[:]) {
				return
			}
		}
	}
}

// joined returns the first n bytes of blocks.
func joined(n int, blocks iter.Seq2[int, []byte]) []byte {
	list := make([]byte, 0, n)
collect:
	for _, b := range blocks {
		for _, value := range b {
			list = append(list, value)
			if len(list) == n {
				break collect
			}
		}
	}
	return list
}

// encoded returns a number in 4 bytes.
func encoded(number int) []byte {
	return []byte{byte(number >> 24), byte(number >> 16), byte(number >> 8), byte(number)}
}
