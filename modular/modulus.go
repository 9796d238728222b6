package modular

import (
	"watchword/api"
	"watchword/nat"
)

// leastRoom is from how many free bits on it is faster to multiply in pieces of this length than bit by bit.
const leastRoom = 6

// modulus is a number other than 0. Its methods take and return residues, unless they say otherwise.
type modulus struct{ nat.Nat }

// newModulus returns the modulus with a number.
func newModulus(m nat.Nat) (modulus, api.Errno) {
	if m.IsZero() {
		return modulus{}, api.ErrArg
	}
	return modulus{m}, api.OK
}

// one returns the number 1, which is not a residue modulo 1.
func one() nat.Nat {
	a, _ := nat.FromInt(1)
	return a
}

// residue returns the residue of any number.
func (m modulus) residue(a nat.Nat) nat.Nat {
	_, rest, _ := a.Divide(m.Nat)
	return rest
}

// residues returns the residues of any numbers.
func (m modulus) residues(numbers ...nat.Nat) []nat.Nat {
	list := make([]nat.Nat, len(numbers))
	for i, a := range numbers {
		list[i] = m.residue(a)
	}
	return list
}

// plus returns the residue of a sum, which may itself have too many bits for a number.
func (m modulus) plus(a, b nat.Nat) nat.Nat {
	gap, _ := m.Sub(b)
	if a.Compare(gap) >= 0 {
		a, _ = a.Sub(gap)
	} else {
		a, _ = a.Add(b)
	}
	return a
}

// minus returns the residue of a difference.
func (m modulus) minus(a, b nat.Nat) nat.Nat {
	difference, e := a.Sub(b)
	if e != api.OK {
		gap, _ := m.Sub(b)
		difference, _ = a.Add(gap)
	}
	return difference
}

// times returns the residue of a product.
func (m modulus) times(a, b nat.Nat) nat.Nat {
	product, e := a.Mul(b)
	if e == api.OK {
		return m.residue(product)
	}
	// The product of a residue and of a piece with as many bits as the modulus leaves free is still a number.
	room := nat.MaxBits - m.BitLen()
	if room < leastRoom {
		return ladder(b, nat.Nat{}, a, m.plus)
	}
	unit, _ := one().ShiftLeft(room)
	high, low, _ := b.Divide(unit)
	return m.plus(m.times(m.times(a, unit), high), m.times(a, low))
}

// power returns the residue of a power with any exponent.
func (m modulus) power(base, exponent nat.Nat) nat.Nat {
	return ladder(exponent, m.residue(one()), base, m.times)
}

// ladder joins n times an element to a neutral one: products are sums and powers are products of one number.
// For each bit of n, from the highest one on, what has been joined so far is doubled.
func ladder[T any](n nat.Nat, neutral, element T, join func(a, b T) T) T {
	result, place := neutral, n.BitLen()
	descend := func(to int) {
		for ; place > to; place-- {
			result = join(result, result)
		}
	}
	for i := range n.Ones() {
		descend(i)
		result = join(result, element)
	}
	descend(0)
	return result
}

// inverse returns the inverse by Euclid's algorithm, or an error if there is none.
func (m modulus) inverse(a nat.Nat) (nat.Nat, api.Errno) {
	rest, next := m.Nat, a
	// Both rests are congruent to a multiple of a, of which one is negative, in turns. No multiple is greater than m.
	multiple, nextMultiple, negative := nat.Nat{}, one(), true
	for !next.IsZero() {
		quotient, remainder, _ := rest.Divide(next)
		step, _ := quotient.Mul(nextMultiple)
		sum, _ := multiple.Add(step)
		rest, next = next, remainder
		multiple, nextMultiple, negative = nextMultiple, sum, !negative
	}
	if rest != one() {
		return nat.Nat{}, api.ErrNone
	}
	if negative {
		multiple = m.minus(nat.Nat{}, multiple)
	}
	return multiple, api.OK
}
