package profile_test

import (
	"bytes"
	"math"
	"strings"
	"testing"

	"watchword/api"
	"watchword/profile"
)

// checkPassword compares FromPassword with the bytes of a key twice.
func checkPassword(t *testing.T, r row, password, salt string, iterations int, want []byte) {
	t.Helper()
	for range 2 {
		got, e := profile.FromPassword(r.profile, password, salt, iterations)
		if !keysEqual(got, api.Key{Profile: r.profile, Bytes: want}) || e != api.OK {
			t.Fatalf("profile %d, %d and %d bytes, %d iterations: %v, error %d instead of %x", r.profile, len(password), len(salt), iterations, got, e, want)
		}
		overwrite(got.Bytes)
	}
}

// checkNoPassword checks that FromPassword returns ErrArg and nothing else.
func checkNoPassword(t *testing.T, number int, password, salt string, iterations int) {
	t.Helper()
	if got, e := profile.FromPassword(number, password, salt, iterations); e != api.ErrArg || !keysEqual(got, api.Key{}) {
		t.Errorf("profile %d, %d and %d bytes, %d iterations: %v, error %d", number, len(password), len(salt), iterations, got, e)
	}
}

// longestSalt returns the greatest number of bytes of a salt, which stands behind the name and a byte 0.
func (r row) longestSalt() int { return 4096 - len(r.name) - 1 }

// TestFromPassword compares FromPassword with the definition.
func TestFromPassword(t *testing.T) {
	for _, r := range rows {
		for _, i := range []int{0, 1, 8, 63, 64, 65, 4095, 4096} {
			for _, j := range []int{0, 1, 8, 63, 64, 65, r.longestSalt() - 1, r.longestSalt()} {
				for _, iterations := range []int{1, 2, 3, 10} {
					password, salt := string(random(i, j)), string(random(j, i))
					checkPassword(t, r, password, salt, iterations, r.definedPassword(password, salt, iterations))
				}
			}
		}
		for _, salt := range []string{"", "\x00", "R", "Ru", "R\x00u", "\xFF\xFE", "ü", r.name} {
			for _, password := range []string{"", "\x00", "\x00\x00", "secret", "ü", "\xC3", "\xFF"} {
				checkPassword(t, r, password, salt, 1, r.definedPassword(password, salt, 1))
			}
		}
		for _, iterations := range []int{255, 256, 4096, 65535, 65536} {
			checkPassword(t, r, "password", "salt", iterations, r.definedPassword("password", "salt", iterations))
		}
	}
}

// TestPasswordPublished checks the key of a password of RFC 8009 with aes128-cts-hmac-sha256-128, which is profile 1.
func TestPasswordPublished(t *testing.T) {
	salt := string(unhex(t, "10DF9DD783E5BC8ACEA1730E74355F61")) + "ATHENA.MIT.EDUraeburn"
	checkPassword(t, rows[0], "password", salt, 32768, unhex(t, "089BCA48B105EA6EA77CA5D2F39DC5E7"))
}

// TestPasswordErrors takes strings that are too long, wrong iterations and profiles that do not exist.
func TestPasswordErrors(t *testing.T) {
	wrongIterations := []int{math.MinInt, -1 << 32, -65536, -1, 0, 65537, 65538, 1 << 17, 1 << 32, 1<<32 + 1, math.MaxInt}
	for _, r := range rows {
		longest := r.longestSalt()
		for _, n := range []int{4097, 4098, 1 << 16} {
			long := strings.Repeat("p", n)
			checkNoPassword(t, r.profile, long, "", 1)
			checkNoPassword(t, r.profile, long, "salt", 1)
			checkNoPassword(t, r.profile, long, long, 0)
		}
		for _, n := range []int{longest + 1, longest + 2, 4095, 4096, 4097, 1 << 16} {
			salt := strings.Repeat("s", n)
			checkNoPassword(t, r.profile, "", salt, 1)
			checkNoPassword(t, r.profile, "password", salt, 2)
		}
		for _, iterations := range wrongIterations {
			checkNoPassword(t, r.profile, "", "", iterations)
			checkNoPassword(t, r.profile, "password", "salt", iterations)
		}
	}
	for _, number := range otherProfiles {
		checkNoPassword(t, number, "", "", 1)
		checkNoPassword(t, number, "password", "salt", 4)
		checkNoPassword(t, number, strings.Repeat("p", 4097), "", 0)
	}
}

// TestFromBytes takes all numbers of bytes, and writes to the bytes and to the keys.
func TestFromBytes(t *testing.T) {
	for _, r := range rows {
		for n := range 70 {
			inside, unchanged := inMemory(random(n, 1))
			b := inside[0]
			first, e := profile.FromBytes(r.profile, b)
			second, _ := profile.FromBytes(r.profile, b)
			want, wanted := api.Key{Profile: r.profile, Bytes: random(n, 1)}, api.OK
			if n != r.key {
				want, wanted = api.Key{}, api.ErrArg
			}
			if e != wanted || !keysEqual(first, want) {
				t.Errorf("profile %d, %d bytes: %v, error %d", r.profile, n, first, e)
			}
			overwrite(first.Bytes)
			unchanged(t)
			overwrite(b)
			if !keysEqual(second, want) {
				t.Errorf("profile %d, %d bytes: %v has become %v", r.profile, n, want, second)
			}
		}
		for _, n := range []int{4096, 1 << 16} {
			if k, e := profile.FromBytes(r.profile, make([]byte, n)); e != api.ErrArg || !keysEqual(k, api.Key{}) {
				t.Errorf("profile %d, %d bytes: %v, error %d", r.profile, n, k, e)
			}
		}
		if k, e := profile.FromBytes(r.profile, nil); e != api.ErrArg || !keysEqual(k, api.Key{}) {
			t.Errorf("profile %d, nil: %v, error %d", r.profile, k, e)
		}
	}
}

// TestFromBytesProfiles takes profiles that do not exist.
func TestFromBytesProfiles(t *testing.T) {
	for _, number := range otherProfiles {
		for n := range 70 {
			if k, e := profile.FromBytes(number, make([]byte, n)); e != api.ErrArg || !keysEqual(k, api.Key{}) {
				t.Errorf("profile %d, %d bytes: %v, error %d", number, n, k, e)
			}
		}
	}
}

// TestKeysOfPasswords checks that each argument counts, and that the name and the salt are not confused.
func TestKeysOfPasswords(t *testing.T) {
	var list [][]byte
	add := func(number int, password, salt string, iterations int) {
		k, e := profile.FromPassword(number, password, salt, iterations)
		if e != api.OK || !profile.Valid(k) {
			t.Fatalf("%v, error %d", k, e)
		}
		for _, other := range list {
			if bytes.Equal(other[:16], k.Bytes[:16]) {
				t.Errorf("profile %d, %q, %q, %d iterations: the key of others", number, password, salt, iterations)
			}
		}
		list = append(list, k.Bytes)
	}
	for _, r := range rows {
		add(r.profile, "password", "salt", 1)
		add(r.profile, "password", "salt", 2)
		add(r.profile, "Password", "salt", 1)
		add(r.profile, "password", "Salt", 1)
		add(r.profile, "passwords", "alt", 1)
		add(r.profile, "password", "\x00salt", 1)
		add(r.profile, "password", "salt\x00", 1)
		add(r.profile, "password", "", 1)
		add(r.profile, "", "salt", 1)
	}
}
