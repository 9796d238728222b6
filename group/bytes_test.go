package group_test

import (
	"bytes"
	"math/big"
	"testing"

	"watchword/api"
	"watchword/group"
	"watchword/nat"
)

// checkScalar compares the scalar of bytes with that of the library.
func (c checked) checkScalar(b []byte) {
	c.Helper()
	copied := bytes.Clone(b)
	want := new(big.Int).SetBytes(b)
	got, e := group.Scalar(c.id, b)
	c.yields("Scalar", want.Mod(want, c.q), got, e)
	if !bytes.Equal(b, copied) {
		c.Errorf("group %d: Scalar modified %x", c.id, copied)
	}
}

func TestScalar(t *testing.T) {
	for _, c := range groups(t) {
		c.checkScalar(nil)
		c.checkScalar([]byte{})
		for n := range 300 {
			b := make([]byte, n)
			c.checkScalar(b)
			for i := range b {
				b[i] = 0xff
			}
			c.checkScalar(b)
			for i := range b {
				b[i] = byte(c.rand.Uint32())
			}
			c.checkScalar(b)
			c.checkScalar(append(make([]byte, 200), b...))
			c.checkScalar(append(b, make([]byte, 200)...))
		}
	}
}

func TestScalarLong(t *testing.T) {
	for _, c := range groups(t) {
		for _, n := range []int{1 << 10, 1<<12 + 1, 1<<16 - 1, 1 << 20} {
			b := make([]byte, n)
			for i := range b {
				b[i] = byte(c.rand.Uint32())
			}
			c.checkScalar(b)
		}
		ones := bytes.Repeat([]byte{0xff}, 1<<14)
		c.checkScalar(ones)
	}
}

// TestScalarNear takes numbers around multiples of q, with as many bytes as p and with more.
func TestScalarNear(t *testing.T) {
	for _, c := range groups(t) {
		for _, factor := range []*big.Int{small(0), small(1), small(2), c.p, c.q, c.below(new(big.Int).Lsh(small(1), 3000))} {
			multiple := new(big.Int).Mul(c.q, factor)
			for d := int64(-2); d <= 2; d++ {
				x := near(multiple, d)
				if x.Sign() < 0 {
					continue
				}
				c.checkScalar(x.Bytes())
				for _, n := range []int{c.bytes, c.bytes + 1, 128, 129, 1000} {
					if n >= len(x.Bytes()) {
						c.checkScalar(x.FillBytes(make([]byte, n)))
					}
				}
			}
		}
	}
}

// form is one of the two kinds of numbers that are written as bytes.
type form struct {
	name   string
	encode func(int, nat.Nat) ([]byte, api.Errno)
	decode func(int, []byte) (nat.Nat, api.Errno)
	right  func(c checked) []*big.Int
	wrong  func(c checked) []*big.Int
}

var forms = []form{
	{"element", group.Bytes, group.Element, func(c checked) []*big.Int { return c.elements(c.cases) }, checked.outsiders},
	{"scalar", group.ScalarBytes, group.Number, func(c checked) []*big.Int { return c.scalars(c.cases) }, checked.overflows},
}

func TestForms(t *testing.T) {
	for _, c := range groups(t) {
		for _, f := range forms {
			for _, x := range f.right(c) {
				want := x.FillBytes(make([]byte, c.bytes))
				b, e := f.encode(c.id, c.number(x))
				if e != api.OK || !bytes.Equal(b, want) {
					t.Errorf("group %d, %s %x: %x, error %d", c.id, f.name, x, b, e)
				}
				got, e := f.decode(c.id, want)
				c.yields(f.name, x, got, e)
				if !bytes.Equal(want, b) {
					t.Errorf("group %d, %s %x: the bytes were modified", c.id, f.name, x)
				}
			}
		}
	}
}

func TestFormErrors(t *testing.T) {
	for _, c := range groups(t) {
		for _, f := range forms {
			for _, x := range f.wrong(c) {
				if b, e := f.encode(c.id, c.number(x)); e != api.ErrRange || b != nil {
					t.Errorf("group %d, %s %x: %x, error %d", c.id, f.name, x, b, e)
				}
				if len(x.Bytes()) <= c.bytes {
					got, e := f.decode(c.id, x.FillBytes(make([]byte, c.bytes)))
					c.fails(f.name, api.ErrRange, got, e)
				}
			}
			got, e := f.decode(c.id, bytes.Repeat([]byte{0xff}, c.bytes))
			c.fails(f.name, api.ErrRange, got, e)
		}
	}
}

// TestFormLengths checks that the number of bytes counts before their value, be it right or not.
func TestFormLengths(t *testing.T) {
	for _, c := range groups(t) {
		for _, f := range forms {
			for n := range 2*c.bytes + 140 {
				want := api.ErrShort
				if n > c.bytes {
					want = api.ErrLong
				}
				if n == c.bytes {
					continue
				}
				one := make([]byte, n)
				for _, b := range [][]byte{make([]byte, n), one, bytes.Repeat([]byte{0xff}, n)} {
					got, e := f.decode(c.id, b)
					c.fails(f.name, want, got, e)
					if n > 0 {
						one[n-1] = 1
					}
				}
			}
			got, e := f.decode(c.id, nil)
			c.fails(f.name, api.ErrShort, got, e)
		}
	}
}

// TestFormMemory checks that results share no memory with each other.
func TestFormMemory(t *testing.T) {
	for _, c := range groups(t) {
		for _, f := range forms {
			first, e := f.encode(c.id, c.number(small(1)))
			if e != api.OK {
				t.Fatal(e)
			}
			first[0], first[c.bytes-1] = 7, 7
			second, e := f.encode(c.id, c.number(small(1)))
			if e != api.OK || second[0] != 0 || second[c.bytes-1] != 1 {
				t.Errorf("group %d, %s: %x, error %d", c.id, f.name, second, e)
			}
		}
	}
}
