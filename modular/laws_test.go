package modular_test

import (
	"math/rand/v2"
	"testing"

	"watchword/api"
	"watchword/modular"
	"watchword/nat"
)

// law is a modulus with which laws are checked.
type law struct {
	*testing.T
	m nat.Nat
}

// apply returns the result of an operation, which must not fail.
func (l law) apply(f func(a, b, m nat.Nat) (nat.Nat, api.Errno), a, b nat.Nat) nat.Nat {
	l.Helper()
	c, e := f(a, b, l.m)
	if e != api.OK || c.Compare(l.m) >= 0 {
		l.Errorf("%s, %s modulo %s: %s, error %d", a.Text(), b.Text(), l.m.Text(), c.Text(), e)
	}
	return c
}

func (l law) add(a, b nat.Nat) nat.Nat { l.Helper(); return l.apply(modular.Add, a, b) }
func (l law) sub(a, b nat.Nat) nat.Nat { l.Helper(); return l.apply(modular.Sub, a, b) }
func (l law) mul(a, b nat.Nat) nat.Nat { l.Helper(); return l.apply(modular.Mul, a, b) }
func (l law) exp(a, b nat.Nat) nat.Nat { l.Helper(); return l.apply(modular.Exp, a, b) }

// residue returns the residue of a number.
func (l law) residue(a nat.Nat) nat.Nat {
	l.Helper()
	return l.apply(func(a, _, m nat.Nat) (nat.Nat, api.Errno) { return modular.Reduce(a, m) }, a, nat.Nat{})
}

// same reports numbers that are not equal.
func (l law) same(what string, x, y nat.Nat) {
	l.Helper()
	if x != y {
		l.Errorf("%s modulo %s: %s and %s", what, l.m.Text(), x.Text(), y.Text())
	}
}

// triples returns moduli with three numbers each, all of different lengths.
func triples(t *testing.T, n int) [][4]nat.Nat {
	t.Helper()
	r := rand.New(rand.NewPCG(17, 18))
	list := moduli(t)
	result := make([][4]nat.Nat, n)
	for i := range result {
		result[i][0] = list[i%len(list)]
		for j := range 3 {
			result[i][j+1] = random(t, r, 1+r.IntN(nat.MaxBits))
		}
	}
	return result
}

func TestRing(t *testing.T) {
	for _, x := range triples(t, 600) {
		l, a, b, c := law{t, x[0]}, x[1], x[2], x[3]
		l.same("a + b and b + a", l.add(a, b), l.add(b, a))
		l.same("a b and b a", l.mul(a, b), l.mul(b, a))
		l.same("(a + b) + c and a + (b + c)", l.add(l.add(a, b), c), l.add(a, l.add(b, c)))
		l.same("(a b) c and a (b c)", l.mul(l.mul(a, b), c), l.mul(a, l.mul(b, c)))
		l.same("a (b + c) and a b + a c", l.mul(a, l.add(b, c)), l.add(l.mul(a, b), l.mul(a, c)))
		l.same("(a - b) + b and a", l.add(l.sub(a, b), b), l.residue(a))
		l.same("a - a and 0", l.sub(a, a), nat.Nat{})
	}
}

func TestPowersOfSums(t *testing.T) {
	for _, x := range triples(t, 240) {
		l, a := law{t, x[0]}, x[1]
		b, _ := x[2].ShiftRight(max(0, x[2].BitLen()-20))
		c, _ := x[3].ShiftRight(max(0, x[3].BitLen()-30))
		sum, _ := b.Add(c)
		l.same("a ^ (b + c) and a ^ b a ^ c", l.exp(a, sum), l.mul(l.exp(a, b), l.exp(a, c)))
	}
}

// TestCongruent replaces arguments by congruent ones.
func TestCongruent(t *testing.T) {
	r := rand.New(rand.NewPCG(19, 20))
	checked := 0
	for _, x := range triples(t, 360) {
		l := law{t, x[0]}
		a, b := l.residue(x[1]), l.residue(x[2])
		factor := random(t, r, max(1, nat.MaxBits-1-l.m.BitLen()))
		multiple, e := l.m.Mul(factor)
		c, f := a.Add(multiple)
		d, g := b.Add(multiple)
		if e != api.OK || f != api.OK || g != api.OK {
			continue
		}
		checked++
		l.same("residues", a, l.residue(c))
		l.same("sums", l.add(a, b), l.add(c, d))
		l.same("differences", l.sub(a, b), l.sub(c, d))
		l.same("products", l.mul(a, b), l.mul(c, d))
		l.same("powers", l.exp(a, small(t, 19)), l.exp(c, small(t, 19)))
		u, e := modular.Inverse(a, l.m)
		v, f := modular.Inverse(c, l.m)
		if u != v || e != f {
			t.Errorf("inverses of %s and %s modulo %s: %s, error %d; %s, error %d", a.Text(), c.Text(), l.m.Text(), u.Text(), e, v.Text(), f)
		}
	}
	if checked < 200 {
		t.Errorf("only %d checked", checked)
	}
}

func TestInverseLaw(t *testing.T) {
	found := 0
	for _, x := range triples(t, 600) {
		l, a := law{t, x[0]}, x[1]
		inverse, e := modular.Inverse(a, l.m)
		coprime := nat.GCD(a, l.m) == small(t, 1)
		if coprime != (e == api.OK) || !coprime && (e != api.ErrNone || !inverse.IsZero()) {
			t.Errorf("inverse of %s modulo %s: %s, error %d", a.Text(), l.m.Text(), inverse.Text(), e)
		}
		if coprime {
			found++
			l.same("a and its inverse", l.mul(a, inverse), l.residue(small(t, 1)))
			l.same("the inverse", inverse, l.residue(inverse))
		}
	}
	if found < 200 {
		t.Errorf("only %d inverses", found)
	}
}

// TestFermat raises numbers to the power of a prime modulus.
func TestFermat(t *testing.T) {
	r := rand.New(rand.NewPCG(21, 22))
	var primes []nat.Nat
	for v := range 200 {
		if prime, _ := modular.Prime(v); prime {
			primes = append(primes, small(t, v))
		}
	}
	for _, v := range []int{2879, 71850239, 2444789759, 4294967291} {
		primes = append(primes, small(t, v))
	}
	for _, bits := range []int{61, 89, 127, 521, 607} { // Mersenne's primes
		primes = append(primes, shifted(t, bits, -1))
	}
	for _, p := range primes {
		l := law{t, p}
		for range 3 {
			a := random(t, r, nat.MaxBits)
			l.same("a ^ p and a", l.exp(a, p), l.residue(a))
		}
	}
	long := law{t, shifted(t, 1024-1, 1155)} // the least prime of 1024 bits
	a := random(t, r, nat.MaxBits)
	long.same("a ^ p and a", long.exp(a, long.m), long.residue(a))
}

// TestExamples checks the table of the chapter.
func TestExamples(t *testing.T) {
	for _, x := range []struct {
		f       func(a, b, m nat.Nat) (nat.Nat, api.Errno)
		a, b, m int
		want    int
	}{
		{modular.Add, 5, 6, 7, 4},
		{modular.Sub, 5, 6, 7, 6},
		{modular.Mul, 5, 6, 7, 2},
		{modular.Exp, 3, 4, 7, 4},
		{modular.Exp, 3, 0, 1, 0},
	} {
		if got, e := x.f(small(t, x.a), small(t, x.b), small(t, x.m)); got != small(t, x.want) || e != api.OK {
			t.Errorf("%d, %d modulo %d: %s, error %d", x.a, x.b, x.m, got.Text(), e)
		}
	}
	for _, x := range []struct {
		a, m, want int
		e          api.Errno
	}{{3, 7, 5, api.OK}, {2, 4, 0, api.ErrNone}, {0, 1, 0, api.OK}, {5, 0, 0, api.ErrArg}} {
		if got, e := modular.Inverse(small(t, x.a), small(t, x.m)); got != small(t, x.want) || e != x.e {
			t.Errorf("inverse of %d modulo %d: %s, error %d", x.a, x.m, got.Text(), e)
		}
	}
	for _, x := range []struct {
		v     int
		prime bool
		e     api.Errno
	}{{1, false, api.OK}, {2, true, api.OK}, {2879, true, api.OK}, {-1, false, api.ErrArg}} {
		if prime, e := modular.Prime(x.v); prime != x.prime || e != x.e {
			t.Errorf("Prime(%d): %v, error %d", x.v, prime, e)
		}
	}
	if got := factors(12); len(got) != 4 || got[0] != 2 || got[1] != 2 || got[2] != 3 || got[3] != 1 {
		t.Errorf("Factors(12): %v", got)
	}
}
