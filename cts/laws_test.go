package cts_test

import (
	"bytes"
	"testing"

	"watchword/api"
	"watchword/cts"
)

// made returns what a function makes of a string, which must be as long as it.
func made(t *testing.T, name string, key, iv, text []byte) []byte {
	t.Helper()
	got, e := functions[name](key, iv, text)
	if len(got) != len(text) || e != api.OK {
		t.Fatalf("%s of %d bytes: %d bytes, error %d", name, len(text), len(got), e)
	}
	return got
}

// checkInverses checks that both functions undo each other for a string.
func checkInverses(t *testing.T, key, iv, text []byte) {
	t.Helper()
	for name, other := range map[string]string{"Encrypt": "Decrypt", "Decrypt": "Encrypt"} {
		if got := made(t, name, key, iv, made(t, other, key, iv, text)); !bytes.Equal(got, text) {
			t.Fatalf("%s of %s of %x with %x, %x: %x", name, other, text, key, iv, got)
		}
	}
}

func TestInverses(t *testing.T) {
	for i := range 3000 {
		checkInverses(t, random(16, 2*i), random(16, 2*i+1), random(16+i%150, i))
	}
	zero, ones := make([]byte, 16), bytes.Repeat([]byte{0xff}, 16)
	for n := 16; n < 120; n++ {
		checkInverses(t, zero, zero, make([]byte, n))
		checkInverses(t, ones, zero, bytes.Repeat([]byte{0xff}, n))
		checkInverses(t, zero, ones, bytes.Repeat([]byte("ab"), n)[:n])
	}
	for n := 65530; n < 65540; n++ {
		checkInverses(t, random(16, n), random(16, n+1), random(n, 0))
	}
	for n := cts.MaxText - 33; n <= cts.MaxText; n++ {
		checkInverses(t, random(16, n), random(16, n+1), random(n, 0))
	}
}

// TestEqualBeginnings takes strings that differ from one place on, with at least two blocks more.
func TestEqualBeginnings(t *testing.T) {
	for k := range 8 {
		for n := 16*k + 17; n <= 16*k+80; n++ {
			key, iv := random(16, n), random(16, k)
			a := random(n, 1)
			encrypted := made(t, "Encrypt", key, iv, a)
			for from := 16 * k; from < n; from++ {
				b := bytes.Clone(a)
				b[from] ^= 0x40
				copy(b[from+1:], random(n, 2)[from+1:])
				other := made(t, "Encrypt", key, iv, b)
				if !bytes.Equal(other[:16*k], encrypted[:16*k]) {
					t.Errorf("%d bytes that differ from %d on: %x and %x", n, from, encrypted, other)
				}
				if bytes.Equal(other, encrypted) {
					t.Errorf("%d bytes that differ from %d on: the same ciphertext", n, from)
				}
			}
		}
	}
}
