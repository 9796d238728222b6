package group_test

import (
	"math/big"
	"testing"

	"watchword/api"
	"watchword/group"
	"watchword/nat"
)

// TestMemberSmall compares all numbers with the powers of the generator.
func TestMemberSmall(t *testing.T) {
	c := groups(t)[0]
	elements := map[int64]bool{}
	for x := int64(1); !elements[x]; x = x * 4 % 2879 {
		elements[x] = true
	}
	if len(elements) != 1439 {
		t.Fatalf("%d elements", len(elements))
	}
	for v := range int64(3 * 2879) {
		if got := group.Member(1, c.number(small(v))); got != elements[v] {
			t.Errorf("Member(1, %d): %v", v, got)
		}
	}
}

func TestMember(t *testing.T) {
	for _, c := range groups(t) {
		for _, x := range c.elements(c.cases) {
			if !group.Member(c.id, c.number(x)) {
				t.Errorf("group %d: %x is no member", c.id, x)
			}
		}
		for _, x := range c.outsiders() {
			if group.Member(c.id, c.number(x)) {
				t.Errorf("group %d: %x is a member", c.id, x)
			}
		}
		for range c.cases {
			x := near(c.below(near(c.p, -1)), 1)
			if got := group.Member(c.id, c.number(x)); got != (big.Jacobi(x, c.p) == 1) {
				t.Errorf("group %d: Member(%x) is %v", c.id, x, got)
			}
		}
	}
}

func TestPower(t *testing.T) {
	for _, c := range groups(t) {
		for _, a := range c.scalars(c.cases) {
			got, e := group.Power(c.id, c.number(a))
			c.yields("Power", new(big.Int).Exp(c.g, a, c.p), got, e)
		}
		for _, a := range c.overflows() {
			got, e := group.Power(c.id, c.number(a))
			c.fails("Power", api.ErrRange, got, e)
		}
	}
}

// TestPowersSmall follows the powers of the generator through the whole group.
func TestPowersSmall(t *testing.T) {
	c := groups(t)[0]
	want := small(1)
	for a := range int64(1439) {
		got, e := group.Power(1, c.number(small(a)))
		c.yields("Power", want, got, e)
		want = small(want.Int64() * 4 % 2879)
	}
}

func TestExp(t *testing.T) {
	for _, c := range groups(t) {
		elements := c.elements(c.cases)
		scalars := c.scalars(c.cases)
		check := func(x, a *big.Int) {
			got, e := group.Exp(c.id, c.number(x), c.number(a))
			c.yields("Exp", new(big.Int).Exp(x, a, c.p), got, e)
		}
		for i, x := range elements {
			check(x, scalars[i])
		}
		for _, x := range elements[:4] {
			for _, a := range scalars[:5] {
				check(x, a)
			}
		}
	}
}

func TestExpErrors(t *testing.T) {
	for _, c := range groups(t) {
		for _, x := range c.outsiders() {
			for _, a := range []*big.Int{small(0), small(1), near(c.q, -1), c.q, c.p} {
				got, e := group.Exp(c.id, c.number(x), c.number(a))
				c.fails("Exp", api.ErrRange, got, e)
			}
		}
		for _, x := range []*big.Int{small(1), c.g} {
			for _, a := range c.overflows() {
				got, e := group.Exp(c.id, c.number(x), c.number(a))
				c.fails("Exp", api.ErrRange, got, e)
			}
		}
	}
}

func TestMul(t *testing.T) {
	for _, c := range groups(t) {
		list := c.elements(c.cases)
		check := func(x, y *big.Int) {
			want := new(big.Int).Mul(x, y)
			got, e := group.Mul(c.id, c.number(x), c.number(y))
			c.yields("Mul", want.Mod(want, c.p), got, e)
		}
		for i, x := range list {
			check(x, list[len(list)-1-i])
			check(x, x)
			check(x, list[i%4])
		}
	}
}

func TestInverse(t *testing.T) {
	for _, c := range groups(t) {
		for _, x := range c.elements(c.cases) {
			got, e := group.Inverse(c.id, c.number(x))
			c.yields("Inverse", new(big.Int).ModInverse(x, c.p), got, e)
		}
		for _, x := range c.outsiders() {
			got, e := group.Inverse(c.id, c.number(x))
			c.fails("Inverse", api.ErrRange, got, e)
		}
	}
}

func TestMulErrors(t *testing.T) {
	for _, c := range groups(t) {
		list := c.outsiders()
		for i, x := range list {
			for _, y := range []*big.Int{small(1), c.element(), list[(i+1)%len(list)]} {
				got, e := group.Mul(c.id, c.number(x), c.number(y))
				c.fails("Mul", api.ErrRange, got, e)
				got, e = group.Mul(c.id, c.number(y), c.number(x))
				c.fails("Mul", api.ErrRange, got, e)
			}
		}
	}
}

func TestScalarOperations(t *testing.T) {
	for _, c := range groups(t) {
		half := new(big.Int).Rsh(c.q, 1)
		list := append(c.scalars(40), half, near(half, 1), near(half, -1))
		for _, a := range list {
			// With these the sum is q - 1, and q unless a is 0.
			gap := new(big.Int).Sub(near(c.q, -1), a)
			rest := new(big.Int).Sub(c.q, a)
			for _, b := range append([]*big.Int{gap, rest.Mod(rest, c.q)}, list...) {
				sum, product := new(big.Int).Add(a, b), new(big.Int).Mul(a, b)
				got, e := group.AddScalars(c.id, c.number(a), c.number(b))
				c.yields("AddScalars", sum.Mod(sum, c.q), got, e)
				got, e = group.MulScalars(c.id, c.number(a), c.number(b))
				c.yields("MulScalars", product.Mod(product, c.q), got, e)
			}
		}
	}
}

func TestScalarOperationErrors(t *testing.T) {
	for _, c := range groups(t) {
		list := c.overflows()
		for i, a := range list {
			for _, b := range []*big.Int{small(0), small(1), near(c.q, -1), list[(i+1)%len(list)]} {
				for _, f := range []func(int, nat.Nat, nat.Nat) (nat.Nat, api.Errno){group.AddScalars, group.MulScalars} {
					got, e := f(c.id, c.number(a), c.number(b))
					c.fails("AddScalars or MulScalars", api.ErrRange, got, e)
					got, e = f(c.id, c.number(b), c.number(a))
					c.fails("AddScalars or MulScalars", api.ErrRange, got, e)
				}
			}
		}
	}
}
