package derive_test

import (
	"bytes"
	"encoding/hex"
	"math"
	"slices"
	"strings"
	"testing"

	"watchword/api"
	"watchword/derive"
)

// lengths are lengths of strings, with those at the edge of a block of the hash function and the greatest one among them.
var lengths = []int{0, 1, 63, 64, 65, 4095, 4096}

// longLengths are lengths of strings that are too long.
var longLengths = []int{4097, 4098, 8192, 1 << 17}

// wrongOutputs are numbers of bytes that cannot be made. The bits of the last ones do not fit 32 or 64 bits.
var wrongOutputs = []int{math.MinInt, -1 << 32, -1024, -32, -2, -1, 0, 1025, 1026, 1056, 2048, 4096, 1<<29 + 1, 1 << 32, 1<<32 + 1, 1<<61 + 1, math.MaxInt}

// unhex returns the bytes of hexadecimal digits, which spaces may divide.
func unhex(t *testing.T, digits string) []byte {
	t.Helper()
	b, err := hex.DecodeString(strings.ReplaceAll(digits, " ", ""))
	if err != nil {
		t.Fatal(err)
	}
	return b
}

// checkCall checks what a function returns twice for strings that lie in the middle of memory, that it changes none of this, and that its results are new memory.
func checkCall(t *testing.T, args [][]byte, want []byte, call func(args [][]byte) ([]byte, api.Errno)) {
	t.Helper()
	memory := random(9, 1)
	var inside [][]byte
	for _, arg := range args {
		memory = append(memory, arg...)
	}
	memory = append(memory, random(100, 2)...)
	rest := memory[9:]
	for _, arg := range args {
		inside = append(inside, rest[:len(arg)])
		rest = rest[len(arg):]
	}
	kept := bytes.Clone(memory)
	for range 2 {
		got, e := call(inside)
		if !bytes.Equal(got, want) || e != api.OK {
			t.Fatalf("%.20x: %x, error %d instead of %x", args, got, e, want)
		}
		for i := range got {
			got[i] ^= 0xff
		}
		_ = append(got, random(40, 3)...)
	}
	if !bytes.Equal(memory, kept) {
		t.Fatalf("%.20x: modified", args)
	}
}

// checkKDF compares KDF with the definition.
func checkKDF(t *testing.T, key, label, context []byte, n int) {
	t.Helper()
	want := definedKDF(key, label, context, n)
	checkCall(t, [][]byte{key, label, context}, want, func(args [][]byte) ([]byte, api.Errno) {
		return derive.KDF(args[0], args[1], args[2], n)
	})
}

// TestKDF takes strings of all lengths at every place.
func TestKDF(t *testing.T) {
	for _, i := range lengths {
		for _, j := range lengths {
			for _, k := range lengths {
				for _, n := range []int{1, 16, 33} {
					checkKDF(t, random(i, 1), random(j, 2), random(k, 3), n)
				}
			}
		}
	}
}

func TestKDFOutputs(t *testing.T) {
	for n := 1; n <= 1024; n++ {
		if n <= 100 || n%32 <= 1 || n%32 == 31 {
			checkKDF(t, random(16, n), random(5, 2), random(7, 3), n)
			checkKDF(t, nil, nil, nil, n)
			checkKDF(t, make([]byte, 4096), make([]byte, 4096), make([]byte, 4096), n)
		}
	}
}

// TestKDFNil puts nil and empty strings at every place.
func TestKDFNil(t *testing.T) {
	for _, some := range [][]byte{nil, {}} {
		for _, n := range []int{1, 32, 100, 1024} {
			for _, args := range [][][]byte{{some, some, some}, {some, {1}, {2}}, {{1}, some, {2}}, {{1}, {2}, some}, {some, some, {1}}, {some, {1}, some}, {{1}, some, some}} {
				got, e := derive.KDF(args[0], args[1], args[2], n)
				if want := definedKDF(args[0], args[1], args[2], n); !bytes.Equal(got, want) || e != api.OK {
					t.Errorf("%v, %d bytes: %x, error %d instead of %x", args, n, got, e, want)
				}
			}
		}
	}
}

// TestKDFDivision moves bytes from one string to the next one, and puts the byte 0 between label and context into them.
func TestKDFDivision(t *testing.T) {
	memory := make([]byte, 12)
	results := map[string]string{}
	for i := range memory {
		key, rest := memory[:i], memory[i:]
		for j := range len(rest) + 1 {
			checkKDF(t, key, rest[:j], rest[j:], 40)
		}
	}
	for i := range 9 {
		got, e := derive.KDF([]byte("key"), []byte("labelled")[:i], []byte("labelled")[i:], 32)
		if e != api.OK || results[string(got)] != "" {
			t.Errorf("divided at %d: %x, error %d %s", i, got, e, results[string(got)])
		}
		results[string(got)] = "as with another division"
	}
}

// TestPublished checks the vectors of RFC 8009, whose derivation has no context.
func TestPublished(t *testing.T) {
	key := unhex(t, "3705D96080C17728A0E800EAB6E0D23C")
	for label, want := range map[string]string{
		"0000000299": "B31A018A48F54776F403E9A396325DC3",
		"00000002AA": "9B197DD1E8C5609D6E67C3E37C62C72E",
		"0000000255": "9FDA0E56AB2D85E1569A688696C26A6C",
	} {
		got, e := derive.KDF(key, unhex(t, label), nil, 16)
		if !bytes.Equal(got, unhex(t, want)) || e != api.OK {
			t.Errorf("%s: %x, error %d instead of %s", label, got, e, want)
		}
	}
}

// TestKDFErrors puts strings that are too long at each place, with numbers of bytes that can and cannot be made.
func TestKDFErrors(t *testing.T) {
	some := append([]int{0, 16, 4096}, longLengths...)
	outputs := append([]int{1, 32, 1024}, wrongOutputs...)
	for _, i := range some {
		for _, j := range some {
			for _, k := range some {
				for _, n := range outputs {
					right := max(i, j, k) <= 4096 && n >= 1 && n <= 1024
					got, e := derive.KDF(make([]byte, i), make([]byte, j), make([]byte, k), n)
					if right && (e != api.OK || len(got) != n) || !right && (e != api.ErrArg || got != nil) {
						t.Errorf("%d, %d and %d bytes, %d bytes of them: %d bytes, error %d", i, j, k, n, len(got), e)
					}
				}
			}
		}
	}
}

// TestExamples checks the table of the chapter.
func TestExamples(t *testing.T) {
	for iterations, want := range map[int]string{
		1: "12 0F B6 CF FC F8 B3 2C 43 E7 22 52 56 C4 F8 37 A8 65 48 C9 2C CC 35 48 08 05 98 7C B7 0B E1 7B",
		2: "AE 4D 0C 95 AF 6B 46 D3 2D 0A DF F9 28 F0 6D D0 2A 30 3F 8E F3 C2 51 DF D6 E2 D8 5A 95 47 4C 43",
	} {
		got, e := derive.Password([]byte("password"), []byte("salt"), iterations, 32)
		if !bytes.Equal(got, unhex(t, want)) || e != api.OK {
			t.Errorf("%d iterations: %x, error %d instead of %s", iterations, got, e, want)
		}
	}
	if got, e := derive.KDF([]byte("k"), []byte("l"), nil, 0); got != nil || e != api.ErrArg {
		t.Errorf("KDF of no bytes: %x, error %d", got, e)
	}
	for _, n := range []int{4097, 1025} {
		if got, e := derive.KDF([]byte("k"), []byte("l"), nil, n); got != nil || e != api.ErrArg {
			t.Errorf("KDF of %d bytes: %x, error %d", n, got, e)
		}
	}
	if got, e := derive.KDF(make([]byte, 4097), []byte("l"), nil, 1); got != nil || e != api.ErrArg {
		t.Errorf("KDF with a key of 4097 bytes: %x, error %d", got, e)
	}
	if got, e := derive.Password([]byte("password"), []byte("salt"), 0, 32); got != nil || e != api.ErrArg {
		t.Errorf("Password with 0 iterations: %x, error %d", got, e)
	}
	if limits := []int{derive.MaxInput, derive.MaxOutput, derive.MaxIterations}; !slices.Equal(limits, []int{4096, 1024, 65536}) {
		t.Error(limits)
	}
}
