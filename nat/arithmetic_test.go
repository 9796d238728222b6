package nat_test

import (
	"math"
	"math/big"
	"math/rand/v2"
	"testing"

	"watchword/api"
	"watchword/nat"
)

// limit is the least number that is too large.
var limit = new(big.Int).Lsh(big.NewInt(1), nat.MaxBits)

// samples returns numbers of many lengths, half of them with long runs of equal bits, and the edges of the digits' lengths.
func samples(t testing.TB, n int) []nat.Nat {
	t.Helper()
	list := []nat.Nat{{}}
	for _, i := range []int{0, 1, 7, 8, 15, 16, 31, 32, 63, 64, 65, 127, 128, 511, 512, 1022, 1023} {
		x := toBig(t, power(t, i))
		list = append(list, toNat(t, x), toNat(t, new(big.Int).Sub(x, big.NewInt(1))), toNat(t, new(big.Int).Add(x, big.NewInt(1))))
	}
	list = append(list, number(t, greatest))
	r := rand.New(rand.NewPCG(1, 2))
	for len(list) < n {
		b := make([]byte, r.IntN(129))
		for i := range b {
			b[i] = byte(r.Uint32())
			if len(list)%2 == 0 && i > 0 && r.IntN(8) != 0 {
				b[i] = byte(int8(b[i-1]) >> 7)
			}
		}
		a, e := nat.FromBytes(b)
		if e != api.OK {
			t.Fatal(e)
		}
		list = append(list, a)
	}
	return list
}

// checkResult reports a result other than a number, or than the error if the number is none that is allowed.
func checkResult(t *testing.T, what string, a, b, got nat.Nat, e api.Errno, want *big.Int) {
	t.Helper()
	wanted, f := nat.Nat{}, api.OK
	switch {
	case want.Sign() < 0:
		f = api.ErrRange
	case want.Cmp(limit) >= 0:
		f = api.ErrFull
	default:
		wanted = toNat(t, want)
	}
	if got != wanted || e != f {
		t.Errorf("%s %s %s: %s, error %d instead of %s, %d", a.Text(), what, b.Text(), got.Text(), e, wanted.Text(), f)
	}
}

func TestSums(t *testing.T) {
	list := samples(t, 160)
	for _, a := range list {
		x := toBig(t, a)
		for _, b := range list {
			y := toBig(t, b)
			sum, e := a.Add(b)
			checkResult(t, "+", a, b, sum, e, new(big.Int).Add(x, y))
			difference, e := a.Sub(b)
			checkResult(t, "-", a, b, difference, e, new(big.Int).Sub(x, y))
			product, e := a.Mul(b)
			checkResult(t, "*", a, b, product, e, new(big.Int).Mul(x, y))
		}
	}
}

func TestSumEdges(t *testing.T) {
	one, top, all := number(t, "1"), power(t, 1023), number(t, greatest)
	if a, e := all.Add(nat.Nat{}); a != all || e != api.OK {
		t.Error(a.Text(), e)
	}
	if a, e := all.Add(one); a != (nat.Nat{}) || e != api.ErrFull {
		t.Error(a.Text(), e)
	}
	if a, e := top.Add(top); a != (nat.Nat{}) || e != api.ErrFull {
		t.Error(a.Text(), e)
	}
	if a, e := all.Sub(all); a != (nat.Nat{}) || e != api.OK {
		t.Error(a.Text(), e)
	}
	if a, e := (nat.Nat{}).Sub(one); a != (nat.Nat{}) || e != api.ErrRange {
		t.Error(a.Text(), e)
	}
	if a, e := top.Sub(one); a.BitLen() != 1023 || e != api.OK {
		t.Error(a.Text(), e)
	}
}

func TestProductEdges(t *testing.T) {
	all := number(t, greatest)
	for i := range nat.MaxBits {
		a := power(t, i)
		for _, j := range []int{0, nat.MaxBits - 2 - i, nat.MaxBits - 1 - i, nat.MaxBits - i, nat.MaxBits - 1} {
			if j < 0 || j >= nat.MaxBits {
				continue
			}
			b := power(t, j)
			got, e := a.Mul(b)
			checkResult(t, "*", a, b, got, e, new(big.Int).Lsh(big.NewInt(1), uint(i+j)))
		}
	}
	if a, e := all.Mul(nat.Nat{}); a != (nat.Nat{}) || e != api.OK {
		t.Error(a.Text(), e)
	}
	if a, e := all.Mul(number(t, "1")); a != all || e != api.OK {
		t.Error(a.Text(), e)
	}
	if a, e := all.Mul(all); a != (nat.Nat{}) || e != api.ErrFull {
		t.Error(a.Text(), e)
	}
}

// checkDivision compares a division with that of the library.
func checkDivision(t *testing.T, a, b nat.Nat) {
	t.Helper()
	quotient, remainder, e := a.Divide(b)
	x, y := new(big.Int).QuoRem(toBig(t, a), toBig(t, b), new(big.Int))
	if e != api.OK || quotient != toNat(t, x) || remainder != toNat(t, y) {
		t.Errorf("%s / %s: %s rest %s, error %d", a.Text(), b.Text(), quotient.Text(), remainder.Text(), e)
	}
}

func TestDivide(t *testing.T) {
	list := samples(t, 200)
	for _, a := range list {
		for _, b := range list {
			if !b.IsZero() {
				checkDivision(t, a, b)
			}
		}
	}
}

func TestDivideByZero(t *testing.T) {
	for _, a := range []nat.Nat{{}, number(t, "1"), number(t, greatest)} {
		if quotient, remainder, e := a.Divide(nat.Nat{}); e != api.ErrArg || !quotient.IsZero() || !remainder.IsZero() {
			t.Errorf("%s / 0: %s rest %s, error %d", a.Text(), quotient.Text(), remainder.Text(), e)
		}
	}
}

// composed returns the number with given digits of a number of bits each, the most significant one first.
func composed(t *testing.T, bits uint, list []uint64) nat.Nat {
	t.Helper()
	x := new(big.Int)
	for _, v := range list {
		x.Lsh(x, bits).Or(x, new(big.Int).SetUint64(v))
	}
	return toNat(t, x)
}

// edges returns digits of a number of bits for which estimates of quotients are wrong most often.
func edges(bits uint) []uint64 {
	top, all := uint64(1)<<(bits-1), uint64(1)<<(bits-1)<<1-1
	return []uint64{0, 1, top - 1, top, top + 1, all - 1, all}
}

func TestDivideHardDigits(t *testing.T) {
	r := rand.New(rand.NewPCG(3, 4))
	pick := func(n int, choices []uint64) []uint64 {
		list := make([]uint64, n)
		for i := range list {
			list[i] = choices[r.IntN(len(choices))]
		}
		return list
	}
	for _, bits := range []uint{8, 16, 32, 64} {
		choices := edges(bits)
		for range 4000 {
			a, b := composed(t, bits, pick(1+r.IntN(8), choices)), composed(t, bits, pick(1+r.IntN(4), choices))
			if !b.IsZero() {
				checkDivision(t, a, b)
			}
		}
	}
}

// TestDivideTooLargeEstimates divides by numbers with which the estimate of a digit by the first two is too large by 1 in the end.
func TestDivideTooLargeEstimates(t *testing.T) {
	for _, bits := range []uint{8, 16, 32, 64} {
		top, all := uint64(1)<<(bits-1), uint64(1)<<(bits-1)<<1-1
		for _, x := range [][2][]uint64{
			{{top - 1, top, 0, 0}, {top, 0, 1}},
			{{top, 0, 0, 0}, {top, 0, 1}},
			{{top, 0, all - 1, 0}, {top, 0, all}},
			{{top, all - 1, 0, 0}, {top, all}},
			{{top - 1, all, all, 0}, {top, all}},
			{{3, 0, top}, {1, 0, top / 4}},
			{{all, all - 1, all, all}, {all, all}},
			{{top, 0, 0, 0, top - 1}, {top, 0, 0, 1}},
			{{top, 0, 1, 0, 0, 0}, {top, 0, 1}},
		} {
			checkDivision(t, composed(t, bits, x[0]), composed(t, bits, x[1]))
		}
	}
}

// TestDivideBack divides products plus the greatest remainder, and one less than products.
func TestDivideBack(t *testing.T) {
	r := rand.New(rand.NewPCG(5, 6))
	for _, bits := range []uint{8, 16, 32, 64} {
		choices := edges(bits)
		for range 2000 {
			list := make([]uint64, 2+r.IntN(6))
			for i := range list {
				list[i] = choices[r.IntN(len(choices))]
			}
			cut := 1 + r.IntN(len(list)-1)
			q, b := composed(t, bits, list[:cut]), composed(t, bits, list[cut:])
			if q.IsZero() || b.IsZero() {
				continue
			}
			product, _ := q.Mul(b)
			less, _ := product.Sub(number(t, "1"))
			more, e := less.Add(b)
			if e != api.OK {
				continue
			}
			checkDivision(t, product, b)
			checkDivision(t, less, b)
			checkDivision(t, more, b)
		}
	}
}

func TestShifts(t *testing.T) {
	shifts := []int{0, 1, 2, 7, 8, 9, 31, 32, 33, 63, 64, 65, 127, 128, 500, 512, 1000, 1022, 1023, 1024, 1025, 4096}
	for _, a := range samples(t, 120) {
		x := toBig(t, a)
		for _, n := range shifts {
			left, e := a.ShiftLeft(n)
			checkResult(t, "<<", a, toNat(t, big.NewInt(int64(n))), left, e, new(big.Int).Lsh(x, uint(n)))
			right, e := a.ShiftRight(n)
			checkResult(t, ">>", a, toNat(t, big.NewInt(int64(n))), right, e, new(big.Int).Rsh(x, uint(n)))
		}
	}
}

func TestShiftEdges(t *testing.T) {
	for _, a := range []nat.Nat{{}, number(t, "1"), number(t, "f1"), number(t, greatest)} {
		for _, n := range []int{-1, -64, -1024, math.MinInt} {
			left, e := a.ShiftLeft(n)
			right, f := a.ShiftRight(n)
			if e != api.ErrArg || f != api.ErrArg || !left.IsZero() || !right.IsZero() {
				t.Errorf("%s by %d: %s, error %d; %s, error %d", a.Text(), n, left.Text(), e, right.Text(), f)
			}
		}
		want := api.ErrFull
		if a.IsZero() {
			want = api.OK
		}
		for _, n := range []int{nat.MaxBits, math.MaxInt - 1, math.MaxInt} {
			left, e := a.ShiftLeft(n)
			right, f := a.ShiftRight(n)
			if e != want || f != api.OK || !left.IsZero() || !right.IsZero() {
				t.Errorf("%s by %d: %s, error %d; %s, error %d", a.Text(), n, left.Text(), e, right.Text(), f)
			}
		}
	}
	for i := range nat.MaxBits {
		a, e := power(t, i).ShiftLeft(nat.MaxBits - 1 - i)
		b, f := power(t, i).ShiftLeft(nat.MaxBits - i)
		if a != power(t, nat.MaxBits-1) || e != api.OK || !b.IsZero() || f != api.ErrFull {
			t.Errorf("2^%d: %s, error %d; %s, error %d", i, a.Text(), e, b.Text(), f)
		}
	}
}

func TestGCD(t *testing.T) {
	list := samples(t, 100)
	for _, a := range list {
		for _, b := range list {
			want := new(big.Int).GCD(nil, nil, toBig(t, a), toBig(t, b))
			if got := nat.GCD(a, b); got != toNat(t, want) {
				t.Errorf("GCD(%s, %s): %s", a.Text(), b.Text(), got.Text())
			}
		}
	}
	for _, a := range list {
		if nat.GCD(a, nat.Nat{}) != a || nat.GCD(nat.Nat{}, a) != a || nat.GCD(a, a) != a {
			t.Errorf("GCD of %s and 0, or of itself", a.Text())
		}
	}
}

// TestGCDLong takes neighbours in Fibonacci's sequence, which need the most divisions, and multiples of them.
func TestGCDLong(t *testing.T) {
	a, b := number(t, "0"), number(t, "1")
	for b.BitLen() < nat.MaxBits-8 {
		next, e := a.Add(b)
		if e != api.OK {
			t.Fatal(e)
		}
		a, b = b, next
	}
	factor := number(t, "c3")
	x, e := a.Mul(factor)
	y, f := b.Mul(factor)
	if e != api.OK || f != api.OK || nat.GCD(a, b).Text() != "1" || nat.GCD(x, y) != factor {
		t.Error(e, f, nat.GCD(a, b).Text(), nat.GCD(x, y).Text())
	}
}
