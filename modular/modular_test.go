package modular_test

import (
	"math/big"
	"math/rand/v2"
	"strings"
	"testing"

	"watchword/api"
	"watchword/modular"
	"watchword/nat"
)

// greatest is the string of the greatest number.
var greatest = strings.Repeat("f", nat.MaxBits/4)

// number returns the number with a string.
func number(t testing.TB, s string) nat.Nat {
	t.Helper()
	a, e := nat.Parse(s)
	if e != api.OK {
		t.Fatalf("Parse(%q): error %d", s, e)
	}
	return a
}

// small returns the number of an int.
func small(t testing.TB, v int) nat.Nat {
	t.Helper()
	a, e := nat.FromInt(v)
	if e != api.OK {
		t.Fatalf("FromInt(%d): error %d", v, e)
	}
	return a
}

// toNat returns the number of layer 1 that a number of the library is.
func toNat(t testing.TB, x *big.Int) nat.Nat {
	t.Helper()
	return number(t, x.Text(16))
}

// toBig returns the number of the library that a number of layer 1 is.
func toBig(t testing.TB, a nat.Nat) *big.Int {
	t.Helper()
	x, ok := new(big.Int).SetString(a.Text(), 16)
	if !ok {
		t.Fatalf("not a number: %q", a.Text())
	}
	return x
}

// shifted returns 2^i + d.
func shifted(t testing.TB, i int, d int64) nat.Nat {
	t.Helper()
	x := new(big.Int).Lsh(big.NewInt(1), uint(i))
	return toNat(t, x.Add(x, big.NewInt(d)))
}

// random returns a number of at most so many bits, every other one with long runs of equal bits.
func random(t testing.TB, r *rand.Rand, bits int) nat.Nat {
	t.Helper()
	b := make([]byte, (bits+7)/8)
	runs := r.IntN(2) == 0
	for i := range b {
		b[i] = byte(r.Uint32())
		if runs && i > 0 && r.IntN(8) != 0 {
			b[i] = byte(int8(b[i-1]) >> 7)
		}
	}
	if bits%8 != 0 {
		b[0] &= 1<<(bits%8) - 1
	}
	a, e := nat.FromBytes(b)
	if e != api.OK {
		t.Fatal(e)
	}
	return a
}

// moduli returns moduli of many lengths, above all those near the greatest one, where sums and products are too long for numbers.
func moduli(t testing.TB) []nat.Nat {
	t.Helper()
	list := []nat.Nat{number(t, greatest), number(t, greatest[1:]), number(t, greatest[1:]+"0")}
	for v := range 16 {
		list = append(list, small(t, v+1))
	}
	for _, i := range []int{31, 32, 63, 64, 65, 511, 512, 513, 768, 1000, 1015, 1016, 1017, 1018, 1019, 1020, 1021, 1022, 1023} {
		list = append(list, shifted(t, i, -1), shifted(t, i, 0), shifted(t, i, 1))
	}
	r := rand.New(rand.NewPCG(1, 2))
	for len(list) < 120 {
		if m := random(t, r, 1+r.IntN(nat.MaxBits)); !m.IsZero() {
			list = append(list, m)
		}
	}
	return list
}

// around returns numbers below, at and above a modulus, up to the greatest number.
func around(t testing.TB, r *rand.Rand, m nat.Nat) []nat.Nat {
	t.Helper()
	list := []nat.Nat{{}, small(t, 1), m, number(t, greatest), shifted(t, nat.MaxBits-1, 0), random(t, r, nat.MaxBits)}
	one := small(t, 1)
	below, _ := m.Sub(one)
	half, _ := m.ShiftRight(1)
	list = append(list, below, half, random(t, r, m.BitLen()), random(t, r, 1+m.BitLen()/2))
	if above, e := m.Add(one); e == api.OK {
		list = append(list, above)
	}
	if twice, e := m.Add(m); e == api.OK {
		list = append(list, twice)
	}
	return list
}

// operation is a sum, a difference or a product modulo a number.
type operation struct {
	name string
	f    func(a, b, m nat.Nat) (nat.Nat, api.Errno)
	want func(z, x, y *big.Int) *big.Int
}

var operations = []operation{
	{"+", modular.Add, (*big.Int).Add},
	{"-", modular.Sub, (*big.Int).Sub},
	{"*", modular.Mul, (*big.Int).Mul},
}

// check compares an operation with that of the library.
func (o operation) check(t *testing.T, a, b, m nat.Nat) {
	t.Helper()
	want := o.want(new(big.Int), toBig(t, a), toBig(t, b))
	want.Mod(want, toBig(t, m))
	if got, e := o.f(a, b, m); e != api.OK || got != toNat(t, want) {
		t.Errorf("%s %s %s modulo %s: %s, error %d instead of %x", a.Text(), o.name, b.Text(), m.Text(), got.Text(), e, want)
	}
}

func TestReduce(t *testing.T) {
	r := rand.New(rand.NewPCG(3, 4))
	for _, m := range moduli(t) {
		for _, a := range around(t, r, m) {
			want := new(big.Int).Mod(toBig(t, a), toBig(t, m))
			if got, e := modular.Reduce(a, m); e != api.OK || got != toNat(t, want) {
				t.Errorf("%s modulo %s: %s, error %d instead of %x", a.Text(), m.Text(), got.Text(), e, want)
			}
		}
	}
}

func TestOperations(t *testing.T) {
	r := rand.New(rand.NewPCG(5, 6))
	for _, m := range moduli(t) {
		list := around(t, r, m)
		for _, a := range list {
			for _, b := range list {
				for _, o := range operations {
					o.check(t, a, b, m)
				}
			}
		}
	}
}

// TestSmallOperations takes all arguments up to twice the modulus, for all small moduli.
func TestSmallOperations(t *testing.T) {
	for v := 1; v <= 12; v++ {
		m := small(t, v)
		for a := range 2*v + 2 {
			for b := range 2*v + 2 {
				sum, e := modular.Add(small(t, a), small(t, b), m)
				difference, f := modular.Sub(small(t, a), small(t, b), m)
				product, g := modular.Mul(small(t, a), small(t, b), m)
				if sum != small(t, (a+b)%v) || difference != small(t, (a-b+3*v)%v) || product != small(t, a*b%v) || e != api.OK || f != api.OK || g != api.OK {
					t.Errorf("%d, %d modulo %d: %s %s %s, errors %d %d %d", a, b, v, sum.Text(), difference.Text(), product.Text(), e, f, g)
				}
			}
		}
	}
}

// TestTooLongForNumbers takes residues whose sum, or product, or sum with the modulus has more than MaxBits bits.
func TestTooLongForNumbers(t *testing.T) {
	all := number(t, greatest)
	less, _ := all.Sub(small(t, 1))
	two := small(t, 2)
	if sum, e := modular.Add(less, less, all); sum != toNat(t, new(big.Int).Sub(toBig(t, less), big.NewInt(1))) || e != api.OK {
		t.Error(sum.Text(), e)
	}
	if difference, e := modular.Sub(small(t, 1), less, all); difference != two || e != api.OK {
		t.Error(difference.Text(), e)
	}
	if product, e := modular.Mul(less, less, all); product != small(t, 1) || e != api.OK {
		t.Error(product.Text(), e)
	}
	if sum, e := modular.Add(all, all, small(t, 7)); sum != small(t, 2) || e != api.OK { // 2^1024 is 2 modulo 7
		t.Error(sum.Text(), e)
	}
	if product, e := modular.Mul(all, all, small(t, 7)); product != small(t, 1) || e != api.OK {
		t.Error(product.Text(), e)
	}
}

// checkPower compares a power with that of the library.
func checkPower(t *testing.T, base, exponent, m nat.Nat) {
	t.Helper()
	want := new(big.Int).Exp(toBig(t, base), toBig(t, exponent), toBig(t, m))
	if got, e := modular.Exp(base, exponent, m); e != api.OK || got != toNat(t, want) {
		t.Errorf("%s ^ %s modulo %s: %s, error %d instead of %x", base.Text(), exponent.Text(), m.Text(), got.Text(), e, want)
	}
}

func TestExp(t *testing.T) {
	r := rand.New(rand.NewPCG(7, 8))
	for _, m := range moduli(t) {
		for _, base := range around(t, r, m) {
			for v := range 6 {
				checkPower(t, base, small(t, v), m)
			}
		}
		checkPower(t, random(t, r, nat.MaxBits), shifted(t, 17, 5), m)
		checkPower(t, m, random(t, r, 24), m)
	}
}

func TestExpLongExponents(t *testing.T) {
	r := rand.New(rand.NewPCG(9, 10))
	all := number(t, greatest)
	for _, v := range []int{1, 2, 3, 7, 2879, 71850239, 1 << 40, 1<<62 + 1} {
		for range 4 {
			m, base := small(t, v), random(t, r, nat.MaxBits)
			checkPower(t, base, random(t, r, nat.MaxBits), m)
			checkPower(t, base, all, m)
			checkPower(t, base, shifted(t, nat.MaxBits-1, 0), m)
		}
	}
	for _, bits := range []int{100, 300, 512, 600, 768, 900} {
		m := shifted(t, bits, -3)
		checkPower(t, random(t, r, nat.MaxBits), random(t, r, nat.MaxBits), m)
		checkPower(t, random(t, r, bits), all, m)
	}
	checkPower(t, random(t, r, nat.MaxBits), random(t, r, nat.MaxBits), number(t, greatest[:255]+"1"))
}

// TestExpNothing takes powers with the exponents 0 and 1, also of 0.
func TestExpNothing(t *testing.T) {
	zero, one := nat.Nat{}, small(t, 1)
	for _, m := range moduli(t) {
		unit, _ := modular.Reduce(one, m)
		for _, base := range []nat.Nat{zero, one, small(t, 5), m, number(t, greatest)} {
			if got, e := modular.Exp(base, zero, m); got != unit || e != api.OK {
				t.Errorf("%s ^ 0 modulo %s: %s, error %d", base.Text(), m.Text(), got.Text(), e)
			}
			want, _ := modular.Reduce(base, m)
			if got, e := modular.Exp(base, one, m); got != want || e != api.OK {
				t.Errorf("%s ^ 1 modulo %s: %s, error %d", base.Text(), m.Text(), got.Text(), e)
			}
		}
		if got, e := modular.Exp(zero, small(t, 9), m); got != zero || e != api.OK {
			t.Errorf("0 ^ 9 modulo %s: %s, error %d", m.Text(), got.Text(), e)
		}
	}
}

func TestInverse(t *testing.T) {
	r := rand.New(rand.NewPCG(11, 12))
	found, missing := 0, 0
	for _, m := range moduli(t) {
		for _, a := range around(t, r, m) {
			want, f := nat.Nat{}, api.ErrNone
			if x := new(big.Int).ModInverse(toBig(t, a), toBig(t, m)); x != nil {
				want, f = toNat(t, x), api.OK
			}
			if got, e := modular.Inverse(a, m); got != want || e != f {
				t.Errorf("inverse of %s modulo %s: %s, error %d instead of %s, %d", a.Text(), m.Text(), got.Text(), e, want.Text(), f)
			}
			if f == api.OK {
				found++
			} else {
				missing++
			}
		}
	}
	if found < 200 || missing < 200 {
		t.Errorf("too few with or without an inverse: %d, %d", found, missing)
	}
}

// TestSmallInverses looks for the inverse among all residues.
func TestSmallInverses(t *testing.T) {
	for v := 1; v <= 60; v++ {
		for a := range 2*v + 1 {
			want, f := 0, api.ErrNone
			for x := range v {
				if a*x%v == 1%v {
					want, f = x, api.OK
				}
			}
			if got, e := modular.Inverse(small(t, a), small(t, v)); got != small(t, want) || e != f {
				t.Errorf("inverse of %d modulo %d: %s, error %d instead of %d, %d", a, v, got.Text(), e, want, f)
			}
		}
	}
}

func TestInverseEdges(t *testing.T) {
	zero, one, all := nat.Nat{}, small(t, 1), number(t, greatest)
	less, _ := all.Sub(one)
	for _, x := range []struct {
		a, m, want nat.Nat
		e          api.Errno
	}{
		{zero, one, zero, api.OK},
		{one, one, zero, api.OK},
		{all, one, zero, api.OK},
		{zero, small(t, 2), zero, api.ErrNone},
		{zero, all, zero, api.ErrNone},
		{one, small(t, 2), one, api.OK},
		{one, all, one, api.OK},
		{less, all, less, api.OK},
		{all, all, zero, api.ErrNone},
		{all, less, one, api.OK},
		{small(t, 2), all, shifted(t, nat.MaxBits-1, 0), api.OK},
		{small(t, 2), less, zero, api.ErrNone},
		{small(t, 3), all, zero, api.ErrNone},
		{all, shifted(t, nat.MaxBits-1, 0), toNat(t, new(big.Int).Sub(toBig(t, shifted(t, nat.MaxBits-1, 0)), big.NewInt(1))), api.OK},
	} {
		if got, e := modular.Inverse(x.a, x.m); got != x.want || e != x.e {
			t.Errorf("inverse of %s modulo %s: %s, error %d instead of %s, %d", x.a.Text(), x.m.Text(), got.Text(), e, x.want.Text(), x.e)
		}
	}
}

// TestInverseLong takes neighbours in Fibonacci's sequence, which need the most steps, an even and an odd number of them.
func TestInverseLong(t *testing.T) {
	a, b := small(t, 1), small(t, 2)
	for {
		next, e := a.Add(b)
		if e != api.OK {
			return
		}
		a, b = b, next
		want := new(big.Int).ModInverse(toBig(t, a), toBig(t, b))
		if got, e := modular.Inverse(a, b); got != toNat(t, want) || e != api.OK {
			t.Errorf("inverse of %s modulo %s: %s, error %d", a.Text(), b.Text(), got.Text(), e)
		}
	}
}

func TestModuloZero(t *testing.T) {
	var zero nat.Nat
	for _, a := range []nat.Nat{zero, small(t, 1), small(t, 5), number(t, greatest)} {
		for _, b := range []nat.Nat{zero, small(t, 1), number(t, greatest)} {
			for _, f := range []func(a, b, m nat.Nat) (nat.Nat, api.Errno){modular.Add, modular.Sub, modular.Mul, modular.Exp} {
				if got, e := f(a, b, zero); got != zero || e != api.ErrArg {
					t.Errorf("%s, %s modulo 0: %s, error %d", a.Text(), b.Text(), got.Text(), e)
				}
			}
		}
		if got, e := modular.Reduce(a, zero); got != zero || e != api.ErrArg {
			t.Errorf("%s modulo 0: %s, error %d", a.Text(), got.Text(), e)
		}
		if got, e := modular.Inverse(a, zero); got != zero || e != api.ErrArg {
			t.Errorf("inverse of %s modulo 0: %s, error %d", a.Text(), got.Text(), e)
		}
	}
}

func TestModuloOne(t *testing.T) {
	var zero nat.Nat
	one := small(t, 1)
	for _, a := range []nat.Nat{zero, one, small(t, 5), number(t, greatest)} {
		for _, b := range []nat.Nat{zero, one, number(t, greatest)} {
			for _, f := range []func(a, b, m nat.Nat) (nat.Nat, api.Errno){modular.Add, modular.Sub, modular.Mul, modular.Exp} {
				if got, e := f(a, b, one); got != zero || e != api.OK {
					t.Errorf("%s, %s modulo 1: %s, error %d", a.Text(), b.Text(), got.Text(), e)
				}
			}
		}
		if got, e := modular.Reduce(a, one); got != zero || e != api.OK {
			t.Errorf("%s modulo 1: %s, error %d", a.Text(), got.Text(), e)
		}
	}
}
