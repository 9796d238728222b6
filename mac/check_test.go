package mac_test

import (
	"bytes"
	"slices"
	"testing"
	"time"

	"watchword/api"
	"watchword/mac"
)

// checkSum checks the error of Check, and that it changes no argument.
func checkSum(t *testing.T, key, sum []byte, parts [][]byte, want api.Errno) {
	t.Helper()
	memory := slices.Concat(sum, random(50))
	kept := bytes.Clone(memory)
	checkUnchanged(t, key, parts, func(key []byte, parts ...[]byte) {
		if e := mac.Check(key, memory[:len(sum)], parts...); e != want {
			t.Errorf("a key of %d bytes, %d parts, %x: error %d instead of %d", len(key), len(parts), sum, e, want)
		}
	})
	if !bytes.Equal(memory, kept) {
		t.Errorf("a key of %d bytes, %d parts, %x: modified", len(key), len(parts), sum)
	}
}

func TestCheck(t *testing.T) {
	for _, length := range keyLengths {
		key := random(length)
		for _, parts := range partLists() {
			whole := wanted(key, slices.Concat(parts...))
			for n := 1; n <= 32; n++ {
				checkSum(t, key, whole[:n], parts, api.OK)
			}
			checkSum(t, key, nil, parts, api.ErrCheck)
			checkSum(t, key, []byte{}, parts, api.ErrCheck)
			for _, more := range [][]byte{{0}, {1}, whole[:1], whole[:], make([]byte, 32), random(5000)} {
				checkSum(t, key, append(whole[:], more...), parts, api.ErrCheck)
			}
		}
	}
}

// TestCheckChanged changes each bit, and each byte by all bits, of all numbers of first bytes.
func TestCheckChanged(t *testing.T) {
	key, text := []byte("key"), []byte("text")
	whole := wanted(key, text)
	for n := 1; n <= 32; n++ {
		for i := range n {
			for _, mask := range []byte{1, 2, 4, 8, 16, 32, 64, 128, 255} {
				sum := bytes.Clone(whole[:n])
				sum[i] ^= mask
				checkSum(t, key, sum, [][]byte{text}, api.ErrCheck)
			}
		}
		checkSum(t, key, whole[1:][:n-1], [][]byte{text}, api.ErrCheck)
		checkSum(t, key, make([]byte, n), [][]byte{text}, api.ErrCheck)
		// Two changes by the same mask must not cancel each other.
		if n > 1 {
			sum := bytes.Clone(whole[:n])
			sum[0] ^= 1
			sum[n-1] ^= 1
			checkSum(t, key, sum, [][]byte{text}, api.ErrCheck)
		}
	}
}

// TestCheckOthers takes the keyed hash of another key, and of another string.
func TestCheckOthers(t *testing.T) {
	key, text := random(16), random(100)
	whole := wanted(key, text)
	for i := range key {
		other := bytes.Clone(key)
		other[i] ^= 0x10
		checkSum(t, other, whole[:], [][]byte{text}, api.ErrCheck)
	}
	for i := range text {
		other := bytes.Clone(text)
		other[i] ^= 0x10
		checkSum(t, key, whole[:], [][]byte{other}, api.ErrCheck)
		checkSum(t, key, whole[:], [][]byte{text[:i]}, api.ErrCheck)
		checkSum(t, key, whole[:], [][]byte{text[:i], text[i:]}, api.OK)
		if i > 0 {
			checkSum(t, key, whole[:], [][]byte{text[i:], text[:i]}, api.ErrCheck)
		}
	}
	checkSum(t, key, whole[:], nil, api.ErrCheck)
}

// TestCheckLongKey takes keys that are too long, with strings that are right by the formula and with others.
func TestCheckLongKey(t *testing.T) {
	for _, n := range longKeys {
		key := random(n)
		for _, parts := range partLists() {
			whole := wanted(key, slices.Concat(parts...))
			for _, sum := range [][]byte{nil, {}, {1}, whole[:1], whole[:], random(33), random(4097)} {
				checkSum(t, key, sum, parts, api.ErrArg)
			}
		}
	}
}

func TestEqual(t *testing.T) {
	for n := range 200 {
		for _, b := range keysOf(n) {
			same := bytes.Clone(b)
			if !mac.Equal(b, same) || !mac.Equal(b, b) {
				t.Errorf("%d bytes %.20x: not equal", n, b)
			}
			for i := range b {
				for _, mask := range []byte{1, 0x80, 0xff} {
					same[i] ^= mask
					if mac.Equal(b, same) || mac.Equal(same, b) {
						t.Errorf("%d bytes with another one at %d: equal", n, i)
					}
					same[i] ^= mask
				}
			}
			if !bytes.Equal(b, same) {
				t.Errorf("%d bytes: modified", n)
			}
		}
	}
}

// TestEqualBytes compares all bytes with each other.
func TestEqualBytes(t *testing.T) {
	for i := range 256 {
		for j := range 256 {
			a, b := []byte{byte(i)}, []byte{byte(j)}
			if mac.Equal(a, b) != (i == j) || mac.Equal([]byte{7, byte(i), byte(j)}, []byte{7, byte(j), byte(i)}) != (i == j) {
				t.Error(i, j)
			}
		}
	}
}

// TestEqualLengths compares strings of which one begins with the other one.
func TestEqualLengths(t *testing.T) {
	for n := range 70 {
		for m := range 70 {
			if mac.Equal(random(100)[:n], random(100)[:m]) != (n == m) || mac.Equal(make([]byte, n), make([]byte, m)) != (n == m) {
				t.Errorf("%d and %d bytes", n, m)
			}
		}
	}
	for _, a := range [][]byte{nil, {}} {
		for _, b := range [][]byte{nil, {}} {
			if !mac.Equal(a, b) {
				t.Errorf("%v and %v are not equal", a, b)
			}
		}
		if mac.Equal(a, []byte{0}) || mac.Equal([]byte{0}, a) {
			t.Errorf("%v is equal to a byte 0", a)
		}
	}
	if mac.Equal(make([]byte, 256), nil) || mac.Equal(make([]byte, 1<<16), make([]byte, 1<<17)) {
		t.Error("lengths that differ by a multiple of 256 are equal")
	}
}

// TestEqualLooksAtAll compares long strings. If the loop ended at the first difference, it would be some 10^6 times as fast.
func TestEqualLooksAtAll(t *testing.T) {
	const n = 1 << 22
	a, b := make([]byte, n), make([]byte, n)
	least := func() time.Duration {
		best := time.Hour
		for range 5 {
			start := time.Now()
			mac.Equal(a, b)
			best = min(best, time.Since(start))
		}
		return best
	}
	equal := least()
	for _, i := range []int{0, n / 100} {
		b[i] ^= 1
		if different := least(); different < equal/20 {
			t.Errorf("%v with a difference at %d, but %v without one", different, i, equal)
		}
		b[i] ^= 1
	}
}
