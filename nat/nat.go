// Package nat calculates with natural numbers (layer 1, see shared/doc/01-nat.md).
package nat

import (
	"cmp"
	"iter"
	"math/bits"
)

// MaxBits is the maximum number of bits.
const MaxBits = 1024

// Nat is a natural number. Its zero value is 0, and equal numbers are equal values.
type Nat struct{ digits }

// Compare returns -1, 0 or 1 if the first number is less than, equal to, or greater than the second one.
func (a Nat) Compare(b Nat) int {
	if a == b {
		return 0
	}
	i := size - 1
	for a.digits[i] == b.digits[i] {
		i--
	}
	return cmp.Compare(a.digits[i], b.digits[i])
}

// IsZero reports whether a number is 0.
func (a Nat) IsZero() bool { return a == Nat{} }

// BitLen returns the minimum n so that the number is less than 2^n.
func (a Nat) BitLen() int {
	n := a.length()
	if n == 0 {
		return 0
	}
	return n*width - bits.LeadingZeros64(a.digits[n-1])
}

// Bit reports whether the bit of the value 2^i is 1 (false where there is no such bit).
func (a Nat) Bit(i int) bool { return i >= 0 && i < MaxBits && a.has(i) }

// Ones returns an iterator over the bits that are 1, in decreasing order.
func (a Nat) Ones() iter.Seq[int] {
	return func(yield func(int) bool) {
		for i := a.length() - 1; i >= 0; i-- {
			for rest := a.digits[i]; rest != 0; {
				top := bits.Len64(rest) - 1
				if !yield(i*width + top) {
					return
				}
				rest &^= 1 << top
			}
		}
	}
}
