package group

import (
	"watchword/api"
	"watchword/modular"
	"watchword/nat"
)

// generator is a square other than 1 modulo each prime, so that it has the order of the group.
const generator = 4

// primes are the strings of the primes of the groups.
var primes = [Groups]string{
	"b3f",
	"44858ff",
	"91b887ff",
	"ffffffffffffffffc90fdaa22168c234c4c6628b80dc1cd129024e088a67cc74" +
		"020bbea63b139b22514a08798e3404ddef9519b3cd3a431b302b0a6df25f1437" +
		"4fe1356d6d51c245e485b576625e7ec6f44c42e9a63a3620ffffffffffffffff",
}

// group is a group, as its prime and its order.
type group struct {
	nat.Nat
	order nat.Nat
}

// condition is what a number has to be in a group.
type condition func(g group, x nat.Nat) bool

// find returns the group with a number.
func find(id int) (group, api.Errno) {
	if id < 1 || id > Groups {
		return group{}, api.ErrArg
	}
	prime, _ := nat.Parse(primes[id-1])
	// As the prime is odd, this is half of what precedes it.
	order, _ := prime.ShiftRight(1)
	return group{prime, order}, api.OK
}

// findFor returns the group with a number, if other numbers meet a condition there.
func findFor(id int, c condition, numbers ...nat.Nat) (group, api.Errno) {
	g, e := find(id)
	if e == api.OK {
		e = g.check(c, numbers...)
	}
	return g, e
}

// check returns an error if a number does not meet a condition.
func (g group) check(c condition, numbers ...nat.Nat) api.Errno {
	if !all(numbers, func(x nat.Nat) bool { return c(g, x) }) {
		return api.ErrRange
	}
	return api.OK
}

// all reports whether something holds for each element of a list.
func all[T any](list []T, holds func(x T) bool) bool {
	for _, x := range list {
		if !holds(x) {
			return false
		}
	}
	return true
}

// isElement reports whether a number is an element.
func (g group) isElement(x nat.Nat) bool {
	if x.Compare(g.Nat) >= 0 {
		return false
	}
	power, _ := modular.Exp(x, g.order, g.Nat)
	return power == small(1)
}

// isScalar reports whether a number is a scalar.
func (g group) isScalar(x nat.Nat) bool { return x.Compare(g.order) < 0 }

// bytes returns the number of bytes of elements and scalars.
func (g group) bytes() int { return (g.BitLen() + byteBits - 1) / byteBits }

// small returns the number of an int, which must not be negative.
func small(v int) nat.Nat {
	a, _ := nat.FromInt(v)
	return a
}
