package group_test

import (
	"math/big"
	"testing"

	"watchword/api"
	"watchword/group"
	"watchword/nat"
)

// unary applies an operation that must not fail.
func (c checked) unary(f func(int, nat.Nat) (nat.Nat, api.Errno), a nat.Nat) nat.Nat {
	c.Helper()
	x, e := f(c.id, a)
	if e != api.OK {
		c.Errorf("group %d, %s: error %d", c.id, a.Text(), e)
	}
	return x
}

// binary applies an operation that must not fail.
func (c checked) binary(f func(int, nat.Nat, nat.Nat) (nat.Nat, api.Errno), a, b nat.Nat) nat.Nat {
	c.Helper()
	x, e := f(c.id, a, b)
	if e != api.OK {
		c.Errorf("group %d, %s and %s: error %d", c.id, a.Text(), b.Text(), e)
	}
	return x
}

// same reports numbers that are not equal.
func (c checked) same(what string, x, y nat.Nat) {
	c.Helper()
	if x != y {
		c.Errorf("group %d, %s: %s and %s", c.id, what, x.Text(), y.Text())
	}
}

func TestLaws(t *testing.T) {
	for _, c := range groups(t) {
		list := c.scalars(c.cases)
		for i := range list {
			a, b := c.number(list[i]), c.number(list[len(list)-1-i])
			x, y := c.unary(group.Power, a), c.unary(group.Power, b)
			if !group.Member(c.id, x) {
				t.Errorf("group %d: the power with %s is no element", c.id, a.Text())
			}
			c.same("Power(a) Power(b) and Power(a + b)", c.binary(group.Mul, x, y), c.unary(group.Power, c.binary(group.AddScalars, a, b)))
			c.same("Exp(Power(a), b) and Exp(Power(b), a)", c.binary(group.Exp, x, b), c.binary(group.Exp, y, a))
			c.same("Exp(Power(a), b) and Power(a b)", c.binary(group.Exp, x, b), c.unary(group.Power, c.binary(group.MulScalars, a, b)))
			c.same("a + b and b + a", c.binary(group.AddScalars, a, b), c.binary(group.AddScalars, b, a))
		}
	}
}

func TestLawsOfElements(t *testing.T) {
	for _, c := range groups(t) {
		one := c.number(small(1))
		for _, v := range c.elements(c.cases) {
			x := c.number(v)
			inverse := c.unary(group.Inverse, x)
			if !group.Member(c.id, inverse) {
				t.Errorf("group %d: the inverse of %s is no element", c.id, x.Text())
			}
			c.same("x and its inverse", c.binary(group.Mul, x, inverse), one)
			c.same("the inverse and x ^ (q - 1)", c.binary(group.Exp, x, c.number(near(c.q, -1))), inverse)
			b, e := group.Bytes(c.id, x)
			got, f := group.Element(c.id, b)
			if e != api.OK || f != api.OK || got != x {
				t.Errorf("group %d: Element(Bytes(%s)): %s, errors %d and %d", c.id, x.Text(), got.Text(), e, f)
			}
		}
		for _, v := range c.scalars(c.cases) {
			a := c.number(v)
			b, e := group.ScalarBytes(c.id, a)
			got, f := group.Number(c.id, b)
			if e != api.OK || f != api.OK || got != a {
				t.Errorf("group %d: Number(ScalarBytes(%s)): %s, errors %d and %d", c.id, a.Text(), got.Text(), e, f)
			}
			scalar, e := group.Scalar(c.id, b)
			c.yields("Scalar(ScalarBytes(a))", v, scalar, e)
		}
	}
}

// TestExamples checks the table of the chapter.
func TestExamples(t *testing.T) {
	c := checked{T: t, id: 1}
	for _, x := range []struct{ a, want int64 }{{0, 1}, {1, 4}, {6, 1217}} {
		got, e := group.Power(1, c.number(small(x.a)))
		c.yields("Power", small(x.want), got, e)
	}
	got, e := group.Power(1, c.number(small(1439)))
	c.fails("Power", api.ErrRange, got, e)
	for _, x := range []struct {
		id   int
		x    int64
		want bool
	}{{1, 1, true}, {1, 4, true}, {1, 2878, false}, {1, 0, false}, {9, 1, false}} {
		if got := group.Member(x.id, c.number(small(x.x))); got != x.want {
			t.Errorf("Member(%d, %d): %v", x.id, x.x, got)
		}
	}
	if group.Len(1) != 2 || group.Len(4) != 96 {
		t.Error(group.Len(1), group.Len(4))
	}
	if b, e := group.Bytes(1, c.number(small(4))); e != api.OK || len(b) != 2 || b[0] != 0 || b[1] != 4 {
		t.Errorf("Bytes(1, 4): %x, error %d", b, e)
	}
	got, e = group.Element(1, []byte{0, 1})
	c.yields("Element(00 01)", big.NewInt(1), got, e)
	got, e = group.Element(1, []byte{1})
	c.fails("Element(01)", api.ErrShort, got, e)
}
