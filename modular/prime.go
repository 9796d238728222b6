package modular

import (
	"iter"

	"watchword/api"
)

// limit is the least number that is too large to be factored.
const limit = 1 << 32

// Prime reports whether a number is a prime.
func Prime(v int) (bool, api.Errno) {
	if v < 0 {
		return false, api.ErrArg
	}
	if v >= limit {
		return false, api.ErrRange
	}
	for p := range Factors(v) {
		return p == v, api.OK
	}
	return false, api.OK
}

// Factors returns an iterator over the prime factors of a number, with their exponents.
func Factors(v int) iter.Seq2[int, int] {
	return func(yield func(int, int) bool) {
		if v < 2 || v >= limit {
			return
		}
		rest := v
	division:
		for p := 2; rest > 1; p++ {
			if p*p > rest {
				// No number between p and the rest divides it.
				p = rest
			}
			for exponent := 0; ; exponent++ {
				switch {
				case rest%p == 0:
					rest /= p
				case exponent == 0:
					continue division
				case yield(p, exponent):
					continue division
				default:
					break division
				}
			}
		}
	}
}
