package nat

import (
	"cmp"
	"math"
	"math/bits"

	"watchword/api"
)

// wide are the digits of a number that has been multiplied by less than 2^width.
type wide [size + 1]uint64

// Divide returns the quotient and the remainder.
func (a Nat) Divide(b Nat) (quotient, remainder Nat, e api.Errno) {
	switch b.length() {
	case 0:
		return Nat{}, Nat{}, api.ErrArg
	case 1:
		quotient, remainder = a.divideShort(b.digits[0])
	default:
		quotient, remainder = a.divideLong(b)
	}
	return quotient, remainder, api.OK
}

// divideShort divides by a single digit.
func (a Nat) divideShort(b uint64) (quotient, remainder Nat) {
	var rest uint64
	for i := a.length() - 1; i >= 0; i-- {
		quotient.digits[i], rest = bits.Div64(rest, a.digits[i], b)
	}
	return quotient, Nat{digits{rest}}
}

// divideLong divides by a number of at least two digits.
func (a Nat) divideLong(b Nat) (quotient, remainder Nat) {
	n := b.length()
	// With a divisor whose first bit is 1, a digit is estimated well from three digits of the dividend and two of the divisor.
	shift := bits.LeadingZeros64(b.digits[n-1])
	u, v := a.widened(shift), b.widened(shift)
	for i := a.length() - n; i >= 0; i-- {
		q := estimate([3]uint64{u[i+n], u[i+n-1], u[i+n-2]}, v[n-1], v[n-2])
		if takeProduct(u[i:i+n+1], v[:n+1], q) {
			q--
			giveBack(u[i:i+n+1], v[:n+1])
		}
		quotient.digits[i] = q
	}
	return quotient, u.narrowed(shift)
}

// estimate returns the next digit of the quotient, or one more, from the first digits of the dividend and of the divisor.
// The first bit of the divisor is 1, and the first digit of the dividend is at most that of the divisor.
func estimate(u [3]uint64, first, second uint64) uint64 {
	if u[0] >= first {
		return math.MaxUint64
	}
	q, rest := bits.Div64(u[0], u[1], first)
correction:
	for over := uint64(0); over == 0; {
		high, low := bits.Mul64(q, second)
		switch cmp.Compare(high, rest) {
		case -1:
			break correction
		case 0:
			if low <= u[2] {
				break correction
			}
		}
		q--
		rest, over = bits.Add64(rest, first, 0)
	}
	return q
}

// takeProduct subtracts q v from u, and reports whether u was too small for this.
func takeProduct(u, v []uint64, q uint64) bool {
	var carry, borrow uint64
	combine(u, v, func(x, y uint64) uint64 {
		y, carry = multiplyAdd(y, q, carry, 0)
		x, borrow = bits.Sub64(x, y, borrow)
		return x
	})
	return borrow != 0
}

// giveBack adds v to u, where a product was taken that was too large by v. The last carry makes up for the last borrow.
func giveBack(u, v []uint64) {
	var carry uint64
	combine(u, v, func(x, y uint64) uint64 {
		x, carry = bits.Add64(x, y, carry)
		return x
	})
}

// widened returns the digits of the number times 2^shift. The shift is less than width.
func (d digits) widened(shift int) (w wide) {
	var lost uint64
	for i, x := range d {
		w[i] = x<<shift | lost
		lost = x >> (width - shift)
	}
	w[size] = lost
	return w
}

// narrowed returns the number that was widened by a shift.
func (w wide) narrowed(shift int) (a Nat) {
	for i := range size {
		a.digits[i] = w[i]>>shift | w[i+1]<<(width-shift)
	}
	return a
}
