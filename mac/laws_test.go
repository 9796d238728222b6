package mac_test

import (
	"bytes"
	"crypto/sha256"
	"testing"

	"watchword/api"
	"watchword/mac"
)

// sumOf returns the keyed hash of parts, and checks that all functions agree on it.
func sumOf(t *testing.T, key []byte, parts ...[]byte) [32]byte {
	t.Helper()
	sum, e := mac.HMAC(key, parts...)
	if e != api.OK {
		t.Fatalf("HMAC with a key of %d bytes: error %d", len(key), e)
	}
	m := begin(t, key)
	write(t, m, parts...)
	if other, e := m.Sum(); other != sum || e != api.OK {
		t.Errorf("a key of %d bytes, %d parts: Sum is %x, error %d instead of %x", len(key), len(parts), other, e, sum)
	}
	if other, e := mac.Truncated(32, key, parts...); !bytes.Equal(other, sum[:]) || e != api.OK {
		t.Errorf("a key of %d bytes, %d parts: Truncated is %x, error %d instead of %x", len(key), len(parts), other, e, sum)
	}
	if e := mac.Check(key, sum[:], parts...); e != api.OK {
		t.Errorf("a key of %d bytes, %d parts: Check has the error %d", len(key), len(parts), e)
	}
	return sum
}

// TestDivision divides strings at every place, and one part once more.
func TestDivision(t *testing.T) {
	for _, n := range []int{0, 1, 2, 10, 55, 56, 63, 64, 65, 127, 128, 129, 200} {
		b := random(n)
		for _, length := range []int{0, 16, 64, 65} {
			key := random(length)
			want := sumOf(t, key, b)
			for i := range n + 1 {
				for _, j := range []int{i, (i + n) / 2, n} {
					if got := sumOf(t, key, b[:i], b[i:j], b[j:]); got != want {
						t.Errorf("a key of %d bytes, %d bytes divided at %d and %d: %x instead of %x", length, n, i, j, got, want)
					}
				}
				if got := sumOf(t, key, b[:i], b[i:]); got != want {
					t.Errorf("a key of %d bytes, %d bytes divided at %d: %x instead of %x", length, n, i, got, want)
				}
			}
		}
	}
}

// TestKeyZeros puts bytes 0 behind keys of every length up to that of the key block.
func TestKeyZeros(t *testing.T) {
	text := random(30)
	for n := range blockSize + 1 {
		for _, key := range keysOf(n) {
			want := sumOf(t, key, text)
			for longer := n; longer <= blockSize; longer++ {
				padded := append(bytes.Clone(key), make([]byte, longer-n)...)
				if got := sumOf(t, padded, text); got != want {
					t.Errorf("a key of %d bytes with bytes 0 up to %d: %x instead of %x", n, longer, got, want)
				}
			}
			// One byte 0 more makes it another key, as it is hashed.
			padded := append(bytes.Clone(key), make([]byte, blockSize+1-n)...)
			if got := sumOf(t, padded, text); got == want {
				t.Errorf("a key of %d bytes with bytes 0 up to 65: %x as well", n, got)
			}
		}
	}
}

// TestKeyHashes takes keys of more bytes than the key block, and their hashes.
func TestKeyHashes(t *testing.T) {
	text := random(30)
	for _, n := range []int{65, 66, 100, 127, 128, 129, 130, 500, 1000, 4095, 4096} {
		for _, key := range keysOf(n) {
			hash := sha256.Sum256(key)
			if got, want := sumOf(t, hash[:], text), sumOf(t, key, text); got != want {
				t.Errorf("a key of %d bytes: %x, but its hash %x", n, want, got)
			}
		}
	}
	// A key that fits is not hashed.
	for _, n := range []int{0, 1, 32, 63, 64} {
		key := random(n)
		hash := sha256.Sum256(key)
		if got := sumOf(t, key, text); got == sumOf(t, hash[:], text) {
			t.Errorf("a key of %d bytes: %x, as its hash", n, got)
		}
	}
}
