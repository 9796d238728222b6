package nat_test

import (
	"bytes"
	"math"
	"math/big"
	"strings"
	"testing"

	"watchword/api"
	"watchword/nat"
)

// number returns the number with a string.
func number(t testing.TB, s string) nat.Nat {
	t.Helper()
	a, e := nat.Parse(s)
	if e != api.OK {
		t.Fatalf("Parse(%q): error %d", s, e)
	}
	return a
}

// toNat returns the number of layer 1 that a number of the library is, which must be less than 2^MaxBits.
func toNat(t testing.TB, x *big.Int) nat.Nat {
	t.Helper()
	return number(t, x.Text(16))
}

// toBig returns the number of the library that a number of layer 1 is.
func toBig(t testing.TB, a nat.Nat) *big.Int {
	t.Helper()
	x, ok := new(big.Int).SetString(a.Text(), 16)
	if !ok {
		t.Fatalf("not a number: %q", a.Text())
	}
	return x
}

// greatest is the string of the greatest number.
var greatest = strings.Repeat("f", nat.MaxBits/4)

func TestFromBytes(t *testing.T) {
	for _, x := range []struct {
		in   []byte
		text string
		out  []byte
	}{
		{nil, "0", nil},
		{[]byte{}, "0", nil},
		{[]byte{0}, "0", nil},
		{[]byte{0, 0, 0}, "0", nil},
		{[]byte{1}, "1", []byte{1}},
		{[]byte{0, 1, 0}, "100", []byte{1, 0}},
		{[]byte{0x0f}, "f", []byte{0x0f}},
		{[]byte{0xf0}, "f0", []byte{0xf0}},
		{[]byte{1, 2, 3, 4, 5, 6, 7, 8, 9}, "10203040506070809", []byte{1, 2, 3, 4, 5, 6, 7, 8, 9}},
		{bytes.Repeat([]byte{0xff}, 8), "ffffffffffffffff", bytes.Repeat([]byte{0xff}, 8)},
		{append([]byte{1}, make([]byte, 8)...), "10000000000000000", append([]byte{1}, make([]byte, 8)...)},
		{bytes.Repeat([]byte{0xff}, 128), greatest, bytes.Repeat([]byte{0xff}, 128)},
		{append(make([]byte, 1000), bytes.Repeat([]byte{0xff}, 128)...), greatest, bytes.Repeat([]byte{0xff}, 128)},
		{make([]byte, 1000), "0", nil},
	} {
		a, e := nat.FromBytes(x.in)
		if e != api.OK || a != number(t, x.text) || a.Text() != x.text || !bytes.Equal(a.Bytes(), x.out) {
			t.Errorf("FromBytes(%x): %s %x, error %d", x.in, a.Text(), a.Bytes(), e)
		}
	}
}

func TestFromBytesFull(t *testing.T) {
	least := make([]byte, 129)
	least[0] = 1
	for _, b := range [][]byte{least, append([]byte{0, 0}, least...), bytes.Repeat([]byte{0xff}, 129), append(least, 0)} {
		if a, e := nat.FromBytes(b); e != api.ErrFull || a != (nat.Nat{}) {
			t.Errorf("FromBytes of %d bytes: %s, error %d", len(b), a.Text(), e)
		}
	}
}

func TestBytesShareNothing(t *testing.T) {
	in := []byte{0, 1, 2, 3}
	a, _ := nat.FromBytes(in)
	if !bytes.Equal(in, []byte{0, 1, 2, 3}) {
		t.Errorf("the argument is now %x", in)
	}
	in[1] = 9
	first := a.Bytes()
	first[0] = 7
	if a.Text() != "10203" || !bytes.Equal(a.Bytes(), []byte{1, 2, 3}) {
		t.Errorf("the number is now %s", a.Text())
	}
}

func TestFromInt(t *testing.T) {
	for _, x := range []struct {
		v    int
		text string
	}{{0, "0"}, {1, "1"}, {15, "f"}, {16, "10"}, {255, "ff"}, {256, "100"}, {1 << 32, "100000000"}, {1<<32 - 1, "ffffffff"}, {1<<62 - 1, "3fffffffffffffff"}, {1 << 62, "4000000000000000"}} {
		a, e := nat.FromInt(x.v)
		v, f := a.Int()
		if e != api.OK || f != api.OK || v != x.v || a.Text() != x.text || a != number(t, x.text) {
			t.Errorf("FromInt(%d): %s, errors %d %d, Int %d", x.v, a.Text(), e, f, v)
		}
	}
	for _, v := range []int{-1, -255, math.MinInt} {
		if a, e := nat.FromInt(v); e != api.ErrArg || a != (nat.Nat{}) {
			t.Errorf("FromInt(%d): %s, error %d", v, a.Text(), e)
		}
	}
	if a, e := nat.FromInt(math.MaxInt); e != api.OK || a.Text() != "7fffffffffffffff" {
		t.Errorf("FromInt(%d): %s, error %d", math.MaxInt, a.Text(), e)
	}
}

func TestIntRange(t *testing.T) {
	for _, s := range []string{"4000000000000001", "7fffffffffffffff", "8000000000000000", "ffffffffffffffff", "10000000000000000", "10000000000000001", greatest} {
		if v, e := number(t, s).Int(); e != api.ErrRange || v != 0 {
			t.Errorf("Int of %s: %d, error %d", s, v, e)
		}
	}
}

func TestParse(t *testing.T) {
	for _, s := range []string{"0", "1", "9", "a", "f", "10", "abcdef0123456789", "fedcba98765432100", "1" + strings.Repeat("0", 255), greatest} {
		a, e := nat.Parse(s)
		if e != api.OK || a.Text() != s || toBig(t, a).Text(16) != s {
			t.Errorf("Parse(%q): %s, error %d", s, a.Text(), e)
		}
	}
}

func TestParseErrors(t *testing.T) {
	for _, x := range []struct {
		s string
		e api.Errno
	}{
		{"", api.ErrFormat},
		{"00", api.ErrFormat},
		{"0f", api.ErrFormat},
		{"0" + greatest, api.ErrFormat},
		{"A", api.ErrFormat},
		{"F", api.ErrFormat},
		{"g", api.ErrFormat},
		{"/", api.ErrFormat},
		{":", api.ErrFormat},
		{"`", api.ErrFormat},
		{"@", api.ErrFormat},
		{"1g", api.ErrFormat},
		{"g1", api.ErrFormat},
		{"1 ", api.ErrFormat},
		{" 1", api.ErrFormat},
		{"+1", api.ErrFormat},
		{"-1", api.ErrFormat},
		{"-0", api.ErrFormat},
		{"1_0", api.ErrFormat},
		{"0x1", api.ErrFormat},
		{"1\x00", api.ErrFormat},
		{"\xff", api.ErrFormat},
		{"\u0661", api.ErrFormat},
		{"1" + strings.Repeat("0", 256), api.ErrFull},
		{greatest + "f", api.ErrFull},
		{strings.Repeat("1", 5000), api.ErrFull},
		{greatest + "g", api.ErrFormat},
		{strings.Repeat("1", 5000) + "G", api.ErrFormat},
		{"0" + strings.Repeat("1", 5000), api.ErrFormat},
	} {
		if a, e := nat.Parse(x.s); e != x.e || a != (nat.Nat{}) {
			t.Errorf("Parse(%.300q): %s, error %d instead of %d", x.s, a.Text(), e, x.e)
		}
	}
}

func TestZero(t *testing.T) {
	var zero nat.Nat
	v, e := zero.Int()
	if zero.Text() != "0" || len(zero.Bytes()) != 0 || v != 0 || e != api.OK || number(t, "0") != zero {
		t.Errorf("0 is %q %x %d, error %d", zero.Text(), zero.Bytes(), v, e)
	}
}
