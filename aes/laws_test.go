package aes_test

import (
	"bytes"
	"testing"

	"watchword/aes"
	"watchword/api"
)

// checkInverses checks that Encrypt and Decrypt of a cipher undo each other for a block.
func checkInverses(t *testing.T, c *aes.Cipher, b []byte) {
	t.Helper()
	encrypted, e := c.Encrypt(b)
	if e != api.OK {
		t.Fatalf("Encrypt of %x: error %d", b, e)
	}
	if got, e := c.Decrypt(encrypted); !bytes.Equal(got, b) || e != api.OK {
		t.Errorf("Decrypt of Encrypt of %x: %x, error %d", b, got, e)
	}
	decrypted, e := c.Decrypt(b)
	if e != api.OK {
		t.Fatalf("Decrypt of %x: error %d", b, e)
	}
	if got, e := c.Encrypt(decrypted); !bytes.Equal(got, b) || e != api.OK {
		t.Errorf("Encrypt of Decrypt of %x: %x, error %d", b, got, e)
	}
}

func TestInverses(t *testing.T) {
	for _, key := range samples() {
		c := newCipher(t, key)
		for _, b := range append(samples(), key) {
			checkInverses(t, c, b)
		}
	}
	for i := range 500 {
		c := newCipher(t, random(16, i))
		for j := range 50 {
			checkInverses(t, c, random(16, 1000*i+j))
		}
	}
}

// TestRepeated encrypts a block many times and decrypts it as often.
func TestRepeated(t *testing.T) {
	c, b := newCipher(t, random(16, 1)), random(16, 2)
	const times = 1000
	seen := map[string]bool{string(b): true}
	for range times {
		next, e := c.Encrypt(b)
		if e != api.OK || seen[string(next)] {
			t.Fatalf("%x: error %d, or not new", next, e)
		}
		seen[string(next)], b = true, next
	}
	for range times {
		b, _ = c.Decrypt(b)
	}
	if !bytes.Equal(b, random(16, 2)) {
		t.Errorf("%x", b)
	}
}

func TestSubstitutesInverses(t *testing.T) {
	for i := range 256 {
		b := byte(i)
		if got := aes.Inverse(aes.Substitute(b)); got != b {
			t.Errorf("Inverse of Substitute of %x: %x", b, got)
		}
		if got := aes.Substitute(aes.Inverse(b)); got != b {
			t.Errorf("Substitute of Inverse of %x: %x", b, got)
		}
	}
}
