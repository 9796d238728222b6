package profile_test

import (
	"bytes"
	"math"
	"testing"

	"watchword/api"
	"watchword/profile"
)

// TestValid takes all numbers of bytes near those of the profiles, with every Version that is one of the limits.
func TestValid(t *testing.T) {
	for _, r := range rows {
		for n := range 70 {
			for _, version := range []int{0, 1, 2, 255, 256, 32768, 65534, 65535} {
				k := api.Key{Profile: r.profile, Version: version, Bytes: random(n, version)}
				if got := profile.Valid(k); got != (n == r.key) {
					t.Errorf("a key of profile %d with Version %d and %d bytes: %t", r.profile, version, n, got)
				}
			}
		}
		for _, k := range r.wrongKeys() {
			if profile.Valid(k) {
				t.Errorf("a key of profile %d with Version %d and %d bytes is valid", k.Profile, k.Version, len(k.Bytes))
			}
		}
	}
}

// TestValidProfiles takes profiles that do not exist, with all numbers of bytes.
func TestValidProfiles(t *testing.T) {
	for _, number := range otherProfiles {
		for n := range 70 {
			if profile.Valid(api.Key{Profile: number, Bytes: make([]byte, n)}) {
				t.Errorf("a key of profile %d with %d bytes is valid", number, n)
			}
		}
	}
}

// someKeys returns different keys, valid and others.
func someKeys() []api.Key {
	list := []api.Key{{}, {Bytes: []byte{0}}, {Bytes: []byte{0, 0}}}
	for _, number := range []int{math.MinInt, -1, 1, 2, 3} {
		for _, version := range []int{math.MinInt, -1, 0, 1, 65535, 65536} {
			for _, n := range []int{0, 1, 15, 16, 17, 31, 32, 33} {
				list = append(list, api.Key{Profile: number, Version: version, Bytes: make([]byte, n)})
			}
		}
	}
	for _, n := range []int{16, 32} {
		for i := range n {
			for _, value := range []byte{1, 0x80, 0xFF} {
				b := make([]byte, n)
				b[i] = value
				list = append(list, api.Key{Profile: n / 16, Version: 1, Bytes: b})
			}
		}
	}
	return list
}

// TestEqual compares each of many different keys with all of them.
func TestEqual(t *testing.T) {
	list := someKeys()
	for i, a := range list {
		for j, b := range list {
			b.Bytes = bytes.Clone(b.Bytes)
			if got := profile.Equal(a, b); got != (i == j) {
				t.Errorf("%v and %v: %t", a, b, got)
			}
		}
	}
}

// TestEqualSameMemory compares keys whose bytes lie in the same memory.
func TestEqualSameMemory(t *testing.T) {
	memory := make([]byte, 40)
	a := api.Key{Profile: 1, Version: 1, Bytes: memory[:16]}
	if b := (api.Key{Profile: 1, Version: 1, Bytes: memory[:16:16]}); !profile.Equal(a, b) {
		t.Error("the same bytes are not equal")
	}
	if b := (api.Key{Profile: 1, Version: 1, Bytes: memory[:15]}); profile.Equal(a, b) || profile.Equal(b, a) {
		t.Error("one byte less is equal")
	}
	if b := (api.Key{Profile: 1, Version: 1, Bytes: memory[1:17]}); !profile.Equal(a, b) {
		t.Error("equal bytes that overlap are not equal")
	}
}

// TestEqualNothing compares keys with nil and with empty bytes.
func TestEqualNothing(t *testing.T) {
	for _, number := range []int{-1, 0, 1, 2} {
		a := api.Key{Profile: number, Version: 3}
		b := api.Key{Profile: number, Version: 3, Bytes: []byte{}}
		for _, pair := range [][2]api.Key{{a, a}, {a, b}, {b, a}, {b, b}} {
			if !profile.Equal(pair[0], pair[1]) {
				t.Errorf("%#v and %#v are not equal", pair[0], pair[1])
			}
		}
		c := api.Key{Profile: number, Version: 3, Bytes: []byte{0}}
		for _, k := range []api.Key{a, b} {
			if profile.Equal(k, c) || profile.Equal(c, k) {
				t.Errorf("%#v and %#v are equal", k, c)
			}
		}
	}
}

// TestEqualCancelled compares keys with two differences that could cancel each other.
func TestEqualCancelled(t *testing.T) {
	for _, r := range rows {
		a := r.keyOf(1, 1)
		for i := 1; i < r.key; i++ {
			b := api.Key{Profile: r.profile, Version: 1, Bytes: bytes.Clone(a.Bytes)}
			b.Bytes[0] ^= 0x55
			b.Bytes[i] ^= 0x55
			if profile.Equal(a, b) {
				t.Errorf("%x and %x are equal", a.Bytes, b.Bytes)
			}
		}
	}
	if profile.Equal(api.Key{Profile: 1, Version: 2}, api.Key{Profile: 2, Version: 1}) {
		t.Error("Profile and Version exchanged are equal")
	}
}

// TestCopy writes to the copies of keys, and to the keys themselves.
func TestCopy(t *testing.T) {
	for _, k := range someKeys() {
		inside, unchanged := inMemory(k.Bytes)
		original := api.Key{Profile: k.Profile, Version: k.Version, Bytes: inside[0]}
		first, second := profile.Copy(original), profile.Copy(original)
		if !keysEqual(first, k) || !keysEqual(second, k) {
			t.Errorf("%v: %v and %v", k, first, second)
		}
		overwrite(first.Bytes)
		unchanged(t)
		if !keysEqual(second, k) {
			t.Errorf("%v has become %v with another copy", k, second)
		}
		overwrite(original.Bytes)
		if !keysEqual(second, k) {
			t.Errorf("%v has become %v with its original", k, second)
		}
	}
}
