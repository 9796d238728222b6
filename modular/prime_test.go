package modular_test

import (
	"math"
	"math/big"
	"math/rand/v2"
	"slices"
	"testing"

	"watchword/api"
	"watchword/modular"
)

func TestPrimeSmall(t *testing.T) {
	composite := make([]bool, 1<<14)
	for v := range composite {
		if v < 2 {
			composite[v] = true
		}
		for w := v * v; v > 1 && w < len(composite); w += v {
			composite[w] = true
		}
		if prime, e := modular.Prime(v); prime == composite[v] || e != api.OK {
			t.Errorf("Prime(%d): %v, error %d", v, prime, e)
		}
	}
}

func TestPrimeEdges(t *testing.T) {
	for _, x := range []struct {
		v     int
		prime bool
		e     api.Errno
	}{
		{0, false, api.OK},
		{1, false, api.OK},
		{2, true, api.OK},
		{65521, true, api.OK},
		{65537, true, api.OK},
		{65521 * 65521, false, api.OK},
		{65521 * 65519, false, api.OK},
		{65521 * 65537, false, api.OK},
		{71850239, true, api.OK},
		{2147483647, true, api.OK},
		{2147483648, false, api.OK},
		{2444789759, true, api.OK},
		{3215031751, false, api.OK}, // a strong pseudoprime to the bases 2, 3, 5 and 7
		{4294967279, true, api.OK},
		{4294967291, true, api.OK},
		{1<<32 - 2, false, api.OK},
		{1<<32 - 1, false, api.OK},
		{1 << 32, false, api.ErrRange},
		{1<<32 + 1, false, api.ErrRange},
		{1<<32 + 15, false, api.ErrRange}, // a prime
		{math.MaxInt, false, api.ErrRange},
		{-1, false, api.ErrArg},
		{-2, false, api.ErrArg},
		{-7, false, api.ErrArg},
		{-1 << 32, false, api.ErrArg},
		{math.MinInt, false, api.ErrArg},
	} {
		if prime, e := modular.Prime(x.v); prime != x.prime || e != x.e {
			t.Errorf("Prime(%d): %v, error %d", x.v, prime, e)
		}
	}
}

func TestPrimeLarge(t *testing.T) {
	r := rand.New(rand.NewPCG(13, 14))
	primes := 0
	for range 3000 {
		v := int(r.Uint32() | 1)
		want := big.NewInt(int64(v)).ProbablyPrime(0)
		if want {
			primes++
		}
		if prime, e := modular.Prime(v); prime != want || e != api.OK {
			t.Errorf("Prime(%d): %v, error %d", v, prime, e)
		}
	}
	if primes < 100 {
		t.Errorf("only %d primes", primes)
	}
}

// factors returns the prime factors, each followed by its exponent.
func factors(v int) (list []int) {
	for p, exponent := range modular.Factors(v) {
		list = append(list, p, exponent)
	}
	return list
}

func TestFactors(t *testing.T) {
	for _, x := range []struct {
		v    int
		want []int
	}{
		{2, []int{2, 1}},
		{3, []int{3, 1}},
		{4, []int{2, 2}},
		{6, []int{2, 1, 3, 1}},
		{12, []int{2, 2, 3, 1}},
		{18, []int{2, 1, 3, 2}},
		{49, []int{7, 2}},
		{1024, []int{2, 10}},
		{2879, []int{2879, 1}},
		{2 * 2879, []int{2, 1, 2879, 1}},
		{1 << 31, []int{2, 31}},
		{3486784401, []int{3, 20}},
		{223092870, []int{2, 1, 3, 1, 5, 1, 7, 1, 11, 1, 13, 1, 17, 1, 19, 1, 23, 1}},
		{65521 * 65521, []int{65521, 2}},
		{65521 * 65537, []int{65521, 1, 65537, 1}},
		{2 * 2147483647, []int{2, 1, 2147483647, 1}},
		{1625 * 1625 * 1625, []int{5, 9, 13, 3}},
		{4294967291, []int{4294967291, 1}},
		{1<<32 - 1, []int{3, 1, 5, 1, 17, 1, 257, 1, 65537, 1}},
		{0, nil},
		{1, nil},
		{-1, nil},
		{-2, nil},
		{-12, nil},
		{math.MinInt, nil},
		{1 << 32, nil},
		{1<<32 + 1, nil},
		{1 << 40, nil},
		{math.MaxInt, nil},
	} {
		if got := factors(x.v); !slices.Equal(got, x.want) {
			t.Errorf("Factors(%d): %v instead of %v", x.v, got, x.want)
		}
	}
}

// TestFactorsMultiplied checks that the factors are increasing primes whose powers make up the number.
func TestFactorsMultiplied(t *testing.T) {
	r := rand.New(rand.NewPCG(15, 16))
	for i := range 3000 {
		v := 2 + i
		if i >= 1500 {
			v = 2 + int(r.Uint32()>>r.IntN(20))%(1<<32-2)
		}
		product, last := 1, 1
		for p, exponent := range modular.Factors(v) {
			if p <= last || exponent < 1 || !big.NewInt(int64(p)).ProbablyPrime(0) {
				t.Fatalf("Factors(%d): %d with %d after %d", v, p, exponent, last)
			}
			last = p
			for range exponent {
				product *= p
			}
		}
		if product != v {
			t.Errorf("Factors(%d): the product is %d", v, product)
		}
	}
}

func TestFactorsLeftEarly(t *testing.T) {
	want := []int{2, 3, 3, 2, 5, 1, 2879, 1}
	iterator := modular.Factors(8 * 9 * 5 * 2879)
	for left := range 5 {
		var seen []int
		for p, exponent := range iterator {
			if len(seen) == 2*left {
				break
			}
			seen = append(seen, p, exponent)
		}
		if !slices.Equal(seen, want[:2*left]) {
			t.Errorf("left after %d: %v", left, seen)
		}
	}
	for range 2 {
		var again []int
		for p, exponent := range iterator {
			again = append(again, p, exponent)
		}
		if !slices.Equal(again, want) {
			t.Errorf("used again: %v", again)
		}
	}
}
