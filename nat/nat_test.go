package nat_test

import (
	"math"
	"slices"
	"strings"
	"testing"

	"watchword/api"
	"watchword/nat"
)

func TestCompare(t *testing.T) {
	increasing := []string{
		"0", "1", "2", "ff", "100", "ffffffff", "100000000", "ffffffffffffffff", "10000000000000000", "10000000000000001",
		"1ffffffffffffffff", "20000000000000000", "ffffffffffffffff0000000000000000", "ffffffffffffffff0000000000000001",
		"1" + strings.Repeat("0", 255), "8" + strings.Repeat("0", 255), greatest[1:] + "0", greatest[1:] + "1", greatest,
	}
	slices.SortFunc(increasing, func(a, b string) int { return toBig(t, number(t, a)).Cmp(toBig(t, number(t, b))) })
	for i, a := range increasing {
		for j, b := range increasing {
			want := 0
			if i < j {
				want = -1
			} else if i > j {
				want = 1
			}
			x, y := number(t, a), number(t, b)
			if x.Compare(y) != want || (x == y) != (want == 0) {
				t.Errorf("Compare(%s, %s): %d", a, b, x.Compare(y))
			}
		}
	}
}

func TestIsZero(t *testing.T) {
	zero, _ := nat.FromBytes([]byte{0, 0})
	if !zero.IsZero() || !(nat.Nat{}).IsZero() || !number(t, "0").IsZero() {
		t.Error("0 is not 0")
	}
	for i := range nat.MaxBits {
		if power(t, i).IsZero() {
			t.Errorf("2^%d is 0", i)
		}
	}
}

// power returns 2^i.
func power(t testing.TB, i int) nat.Nat {
	t.Helper()
	b := make([]byte, i/8+1)
	b[0] = 1 << (i % 8)
	a, e := nat.FromBytes(b)
	if e != api.OK {
		t.Fatalf("2^%d: error %d", i, e)
	}
	return a
}

func TestBitLen(t *testing.T) {
	if (nat.Nat{}).BitLen() != 0 || number(t, greatest).BitLen() != nat.MaxBits {
		t.Error("BitLen of 0 or of the greatest number")
	}
	for i := range nat.MaxBits {
		a := power(t, i)
		less, e := a.Sub(power(t, 0))
		if a.BitLen() != i+1 || less.BitLen() != i || e != api.OK {
			t.Errorf("BitLen of 2^%d: %d, of one less: %d", i, a.BitLen(), less.BitLen())
		}
	}
}

func TestBit(t *testing.T) {
	for i := range nat.MaxBits {
		a := power(t, i)
		for j := range nat.MaxBits {
			if a.Bit(j) != (i == j) {
				t.Fatalf("bit %d of 2^%d: %v", j, i, a.Bit(j))
			}
		}
	}
	all := number(t, greatest)
	for _, i := range []int{-1, -63, -64, -65, -1024, math.MinInt, nat.MaxBits, nat.MaxBits + 1, 2 * nat.MaxBits, math.MaxInt} {
		if all.Bit(i) {
			t.Errorf("bit %d is 1", i)
		}
	}
	if !all.Bit(0) || !all.Bit(nat.MaxBits-1) {
		t.Error("the first or the last bit is 0")
	}
}

func TestOnes(t *testing.T) {
	for _, x := range []struct {
		s    string
		ones []int
	}{
		{"0", nil},
		{"1", []int{0}},
		{"a", []int{3, 1}},
		{"8000000000000000", []int{63}},
		{"18000000000000000", []int{64, 63}},
		{"100000000000000008000000000000001", []int{128, 63, 0}},
		{"8" + strings.Repeat("0", 254) + "3", []int{1023, 1, 0}},
	} {
		if ones := slices.Collect(number(t, x.s).Ones()); !slices.Equal(ones, x.ones) {
			t.Errorf("Ones of %s: %v", x.s, ones)
		}
	}
	want := 1023
	for i := range number(t, greatest).Ones() {
		if i != want {
			t.Fatalf("Ones of the greatest number: %d instead of %d", i, want)
		}
		want--
	}
	if want != -1 {
		t.Errorf("Ones ended before %d", want)
	}
}

func TestOnesLeftEarly(t *testing.T) {
	a := number(t, "8000000000000000a")
	ones := a.Ones()
	for left := range 4 {
		var seen []int
		for i := range ones {
			if len(seen) == left {
				break
			}
			seen = append(seen, i)
		}
		if !slices.Equal(seen, []int{67, 3, 1}[:left]) {
			t.Errorf("left after %d: %v", left, seen)
		}
	}
	for range 2 {
		if again := slices.Collect(ones); !slices.Equal(again, []int{67, 3, 1}) {
			t.Errorf("used again: %v", again)
		}
	}
}
