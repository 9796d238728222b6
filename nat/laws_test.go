package nat_test

import (
	"testing"

	"watchword/api"
	"watchword/nat"
)

// operation is the sum or the product.
type operation func(a, b nat.Nat) (nat.Nat, api.Errno)

// both reports whether two ways to calculate give the same number, as far as neither gives an error.
func both(x nat.Nat, e api.Errno, y nat.Nat, f api.Errno) bool {
	return e != api.OK || f != api.OK || x == y
}

// then applies a second operation to the result of a first one.
func then(x nat.Nat, e api.Errno, next func(nat.Nat) (nat.Nat, api.Errno)) (nat.Nat, api.Errno) {
	if e != api.OK {
		return nat.Nat{}, e
	}
	return next(x)
}

func TestCommutative(t *testing.T) {
	for name, f := range map[string]operation{"sum": nat.Nat.Add, "product": nat.Nat.Mul} {
		list := samples(t, 150)
		for _, a := range list {
			for _, b := range list {
				x, e := f(a, b)
				y, g := f(b, a)
				if x != y || e != g {
					t.Errorf("%s of %s and %s", name, a.Text(), b.Text())
				}
			}
		}
	}
}

// checkAssociative checks one triple, for the sum or the product.
func checkAssociative(t *testing.T, name string, f operation, a, b, c nat.Nat) bool {
	t.Helper()
	x, e := f(a, b)
	x, e = then(x, e, func(s nat.Nat) (nat.Nat, api.Errno) { return f(s, c) })
	y, g := f(b, c)
	y, g = then(y, g, func(s nat.Nat) (nat.Nat, api.Errno) { return f(a, s) })
	if !both(x, e, y, g) {
		t.Errorf("%s of %s, %s, %s", name, a.Text(), b.Text(), c.Text())
	}
	return e == api.OK && g == api.OK
}

// checkDistributive checks one triple.
func checkDistributive(t *testing.T, a, b, c nat.Nat) bool {
	t.Helper()
	x, e := b.Add(c)
	x, e = then(x, e, func(s nat.Nat) (nat.Nat, api.Errno) { return a.Mul(s) })
	y, f := a.Mul(b)
	z, g := a.Mul(c)
	if f == api.OK {
		f = g
	}
	y, f = then(y, f, func(s nat.Nat) (nat.Nat, api.Errno) { return s.Add(z) })
	if !both(x, e, y, f) {
		t.Errorf("%s times the sum of %s and %s", a.Text(), b.Text(), c.Text())
	}
	return e == api.OK && f == api.OK
}

func TestAssociativeAndDistributive(t *testing.T) {
	list := samples(t, 75)
	sums, products, mixed := 0, 0, 0
	for _, a := range list {
		for _, b := range list {
			for _, c := range list[len(list)/5:] {
				if checkAssociative(t, "sum", nat.Nat.Add, a, b, c) {
					sums++
				}
				if checkAssociative(t, "product", nat.Nat.Mul, a, b, c) {
					products++
				}
				if checkDistributive(t, a, b, c) {
					mixed++
				}
			}
		}
	}
	if sums < 1000 || products < 1000 || mixed < 1000 {
		t.Errorf("too few triples without an error: %d, %d, %d", sums, products, mixed)
	}
}

func TestQuotientTimesDivisor(t *testing.T) {
	list := samples(t, 200)
	for _, a := range list {
		for _, b := range list {
			if b.IsZero() {
				continue
			}
			quotient, remainder, e := a.Divide(b)
			product, f := quotient.Mul(b)
			sum, g := product.Add(remainder)
			if e != api.OK || f != api.OK || g != api.OK || sum != a || remainder.Compare(b) >= 0 {
				t.Errorf("%s / %s: %s rest %s, errors %d %d %d", a.Text(), b.Text(), quotient.Text(), remainder.Text(), e, f, g)
			}
		}
	}
}

func TestInverses(t *testing.T) {
	for _, a := range samples(t, 2000) {
		b, e := nat.Parse(a.Text())
		c, f := nat.FromBytes(a.Bytes())
		if a != b || a != c || e != api.OK || f != api.OK {
			t.Errorf("%s: %s, error %d; %s, error %d", a.Text(), b.Text(), e, c.Text(), f)
		}
		v, e := a.Int()
		if (e == api.OK) != (a.BitLen() < 63 || a == power(t, 62)) {
			t.Errorf("Int of %s: %d, error %d", a.Text(), v, e)
		}
		if e != api.OK {
			continue
		}
		if d, f := nat.FromInt(v); d != a || f != api.OK {
			t.Errorf("%s: %s, error %d", a.Text(), d.Text(), f)
		}
	}
}

// TestExamples checks the table of the chapter.
func TestExamples(t *testing.T) {
	a, e := nat.FromBytes([]byte{0, 1, 0})
	if v, f := a.Int(); v != 256 || e != api.OK || f != api.OK || a.Text() != "100" || a.BitLen() != 9 || string(a.Bytes()) != "\x01\x00" {
		t.Error(a.Text(), e, f)
	}
	if _, e := nat.FromInt(-1); e != api.ErrArg {
		t.Error(e)
	}
	b, _ := nat.FromInt(257)
	if x, e := a.Sub(b); !x.IsZero() || e != api.ErrRange {
		t.Error(x.Text(), e)
	}
	if x, e := power(t, 1023).Add(power(t, 1023)); !x.IsZero() || e != api.ErrFull {
		t.Error(x.Text(), e)
	}
	thousand, _ := nat.FromInt(1000)
	q, r, e := thousand.Divide(number(t, "7"))
	if v, _ := q.Int(); v != 142 || r.Text() != "6" || e != api.OK {
		t.Error(q.Text(), r.Text(), e)
	}
	if _, _, e := thousand.Divide(nat.Nat{}); e != api.ErrArg {
		t.Error(e)
	}
	x, e := nat.Parse("ff")
	if v, f := x.Int(); v != 255 || e != api.OK || f != api.OK {
		t.Error(v, e, f)
	}
	for _, s := range []string{"0f", ""} {
		if _, e := nat.Parse(s); e != api.ErrFormat {
			t.Error(s, e)
		}
	}
	if nat.GCD(number(t, "c"), number(t, "12")).Text() != "6" || nat.GCD(nat.Nat{}, number(t, "5")).Text() != "5" {
		t.Error("GCD")
	}
}
