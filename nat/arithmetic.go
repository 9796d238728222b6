package nat

import (
	"math/bits"

	"watchword/api"
)

// Add returns the sum.
func (a Nat) Add(b Nat) (Nat, api.Errno) {
	var carry uint64
	combine(a.digits[:], b.digits[:], func(x, y uint64) (sum uint64) {
		sum, carry = bits.Add64(x, y, carry)
		return sum
	})
	if carry != 0 {
		return Nat{}, api.ErrFull
	}
	return a, api.OK
}

// Sub returns the difference.
func (a Nat) Sub(b Nat) (Nat, api.Errno) {
	var borrow uint64
	combine(a.digits[:], b.digits[:], func(x, y uint64) (difference uint64) {
		difference, borrow = bits.Sub64(x, y, borrow)
		return difference
	})
	if borrow != 0 {
		return Nat{}, api.ErrRange
	}
	return a, api.OK
}

// Mul returns the product.
func (a Nat) Mul(b Nat) (Nat, api.Errno) {
	n, m := a.length(), b.length()
	// The product has at least n + m - 1 digits.
	if n+m > size+1 {
		return Nat{}, api.ErrFull
	}
	var product [size + 1]uint64
	for i, factor := range a.digits[:n] {
		var carry uint64
		combine(product[i:i+m], b.digits[:m], func(sum, y uint64) uint64 {
			sum, carry = multiplyAdd(y, factor, sum, carry)
			return sum
		})
		product[i+m] = carry
	}
	if product[size] != 0 {
		return Nat{}, api.ErrFull
	}
	var result Nat
	copy(result.digits[:], product[:size])
	return result, api.OK
}

// multiplyAdd returns the last and the first digit of x y + v + w, which has never more than two.
func multiplyAdd(x, y, v, w uint64) (low, high uint64) {
	high, low = bits.Mul64(x, y)
	low, carry := bits.Add64(low, v, 0)
	high += carry
	low, carry = bits.Add64(low, w, 0)
	return low, high + carry
}

// ShiftLeft returns the number times 2^n.
func (a Nat) ShiftLeft(n int) (Nat, api.Errno) {
	switch {
	case n < 0:
		return Nat{}, api.ErrArg
	case a.IsZero():
		return Nat{}, api.OK
	case n > MaxBits-a.BitLen():
		return Nat{}, api.ErrFull
	}
	return a.moved(n), api.OK
}

// ShiftRight returns the quotient by 2^n.
func (a Nat) ShiftRight(n int) (Nat, api.Errno) {
	if n < 0 {
		return Nat{}, api.ErrArg
	}
	return a.moved(-n), api.OK
}

// moved returns the number whose bits are n places higher. Bits below 0 are lost, none may get too high.
func (a Nat) moved(n int) Nat {
	var result Nat
	for i := range a.Ones() {
		if i+n < 0 {
			break
		}
		result.set(i + n)
	}
	return result
}

// GCD returns the greatest common divisor.
func GCD(a, b Nat) Nat {
	for b != (Nat{}) {
		_, rest, _ := a.Divide(b)
		a, b = b, rest
	}
	return a
}
