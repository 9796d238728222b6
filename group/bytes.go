package group

import (
	"slices"

	"watchword/api"
	"watchword/modular"
	"watchword/nat"
)

const byteBits = 8

// Scalar returns the scalar of bytes.
func Scalar(id int, b []byte) (nat.Nat, api.Errno) {
	g, e := find(id)
	if e != api.OK {
		return nat.Nat{}, e
	}
	var rest nat.Nat
	// A scalar followed by a piece of this length still has few enough bits for a number.
	for piece := range slices.Chunk(b, nat.MaxBits/byteBits-g.bytes()) {
		next, _ := nat.FromBytes(append(rest.Bytes(), piece...))
		rest, _ = modular.Reduce(next, g.order)
	}
	return rest, api.OK
}

// Bytes returns an element as bytes.
func Bytes(id int, x nat.Nat) ([]byte, api.Errno) { return encode(id, group.isElement, x) }

// Element returns the element with given bytes.
func Element(id int, b []byte) (nat.Nat, api.Errno) { return decode(id, group.isElement, b) }

// ScalarBytes returns a scalar as bytes.
func ScalarBytes(id int, a nat.Nat) ([]byte, api.Errno) { return encode(id, group.isScalar, a) }

// Number returns the scalar with given bytes.
func Number(id int, b []byte) (nat.Nat, api.Errno) { return decode(id, group.isScalar, b) }

// encode returns a number that must meet a condition, with as many bytes as the prime.
func encode(id int, c condition, x nat.Nat) ([]byte, api.Errno) {
	g, e := findFor(id, c, x)
	if e != api.OK {
		return nil, e
	}
	digits := x.Bytes()
	b := make([]byte, g.bytes())
	copy(b[len(b)-len(digits):], digits)
	return b, api.OK
}

// decode returns the number with given bytes, as many as those of the prime. It must meet a condition.
func decode(id int, c condition, b []byte) (nat.Nat, api.Errno) {
	g, e := find(id)
	switch {
	case e != api.OK:
		return nat.Nat{}, e
	case len(b) < g.bytes():
		return nat.Nat{}, api.ErrShort
	case len(b) > g.bytes():
		return nat.Nat{}, api.ErrLong
	}
	x, _ := nat.FromBytes(b)
	if e := g.check(c, x); e != api.OK {
		return nat.Nat{}, e
	}
	return x, api.OK
}
