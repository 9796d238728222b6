package profile_test

import (
	"bytes"
	"fmt"
	"slices"
	"testing"

	"watchword/api"
	"watchword/profile"
)

// checkNoOpen checks the error of Open, and that it returns nothing else and changes no argument.
func checkNoOpen(t *testing.T, what string, k api.Key, usage api.Usage, s api.Sealed, want api.Errno) {
	t.Helper()
	inside, unchanged := inMemory(k.Bytes, s.Bytes)
	k.Bytes, s.Bytes = inside[0], inside[1]
	if got, e := profile.Open(k, usage, s); e != want || got != nil {
		t.Errorf("%s: %.20x, error %d instead of %d", what, got, e, want)
	}
	unchanged(t)
}

// faults is which faults the arguments of Open have.
type faults struct{ key, usage, profile, version, short, long, tag bool }

// wanted returns the error of the first fault, in the order of the chapter.
func (f faults) wanted() api.Errno {
	switch {
	case f.key || f.usage:
		return api.ErrArg
	case f.profile || f.version:
		return api.ErrNone
	case f.short:
		return api.ErrShort
	case f.long:
		return api.ErrLong
	case f.tag:
		return api.ErrCheck
	}
	return api.OK
}

// allFaults returns all combinations of faults.
func allFaults() []faults {
	var list []faults
	for i := range 128 {
		has := func(bit int) bool { return i>>bit&1 == 1 }
		f := faults{has(0), has(1), has(2), has(3), has(4), has(5), has(6)}
		if !(f.short && f.long) {
			list = append(list, f)
		}
	}
	return list
}

// build returns arguments with faults, of which a choice says which ones exactly.
func (f faults) build(r row, choice int) (api.Key, api.Usage, api.Sealed) {
	k, usage, length := r.keyOf(3, 1), api.Usage(5), []int{16, 17, 40, 65552}[choice%4]
	if f.short {
		length = []int{0, 1, 14, 15}[choice%4]
	}
	if f.long {
		length = []int{65553, 65554, 1 << 17, 1<<17 + 1}[choice%4]
	}
	s := r.withTag(k, usage, random(length, 1)) // the right tag, also where the length is wrong
	if f.tag {
		s.Bytes[len(s.Bytes)-1-choice%16] ^= 1
	}
	if f.version {
		s.Version = []int{1, 2, 4, 65535, -1, -3, 65536, 65539}[choice%8]
	}
	if f.profile {
		s.Profile = []int{3 - r.profile, 0, 3, -1, -r.profile, r.profile + 256, r.profile + 1<<32}[choice%7]
	}
	if f.usage {
		usage = wrongUsages[choice%len(wrongUsages)]
	}
	if f.key {
		wrong := r.wrongKeys()
		k = wrong[choice%len(wrong)]
	}
	return k, usage, s
}

// TestOpenErrors combines all faults, each one of different kinds.
func TestOpenErrors(t *testing.T) {
	for _, r := range rows {
		for i, f := range allFaults() {
			for j := range 12 {
				k, usage, s := f.build(r, i+j)
				if want := f.wanted(); want != api.OK {
					checkNoOpen(t, fmt.Sprintf("profile %d, %+v, choice %d", r.profile, f, i+j), k, usage, s, want)
				} else {
					checkOpen(t, k, usage, s, r.definedPlain(k.Bytes, usage, s.Bytes[:len(s.Bytes)-r.tag]))
				}
			}
		}
	}
}

// TestOpenArguments takes each wrong key and each wrong usage with a sealed string that is right otherwise.
func TestOpenArguments(t *testing.T) {
	for _, r := range rows {
		right := r.keyOf(1, 1)
		s := r.definedSealed(right, 1, random(16, 1), random(20, 1))
		for _, k := range r.wrongKeys() {
			what := fmt.Sprintf("a key of profile %d with Version %d and %d bytes", k.Profile, k.Version, len(k.Bytes))
			checkNoOpen(t, what, k, 1, s, api.ErrArg)
			own := api.Sealed{Profile: k.Profile, Version: k.Version, Bytes: s.Bytes}
			checkNoOpen(t, what, k, 1, own, api.ErrArg)
			checkNoOpen(t, what, k, 1, api.Sealed{}, api.ErrArg)
		}
		for _, usage := range wrongUsages {
			checkNoOpen(t, fmt.Sprintf("usage %d", usage), right, usage, s, api.ErrArg)
			checkNoOpen(t, fmt.Sprintf("usage %d", usage), right, usage, api.Sealed{}, api.ErrArg)
		}
	}
}

// TestOpenProfiles takes sealed strings with other Profiles.
func TestOpenProfiles(t *testing.T) {
	for _, r := range rows {
		for _, number := range append([]int{3 - r.profile}, otherProfiles...) {
			for _, version := range []int{0, 1} {
				k := r.keyOf(version, 1)
				s := r.definedSealed(k, 1, random(16, 1), random(20, 1))
				s.Profile = number
				what := fmt.Sprintf("a key of profile %d, a string of profile %d", r.profile, number)
				checkNoOpen(t, what, k, 1, s, api.ErrNone)
				s.Version = 0
				checkNoOpen(t, what, k, 1, s, api.ErrNone)
			}
		}
	}
}

// TestOpenVersions combines Versions of keys with those of sealed strings.
func TestOpenVersions(t *testing.T) {
	for _, r := range rows {
		for _, i := range []int{0, 1, 2, 256, 257, 65534, 65535} {
			for _, j := range append([]int{0, 1, 2, 256, 257, 65534, 65535}, wrongVersions...) {
				k, plain := r.keyOf(i, 1), random(40, 2)
				s := r.definedSealed(k, 1023, random(16, 1), plain)
				s.Version = j
				if i == j || i == 0 || j == 0 {
					checkOpen(t, k, 1023, s, plain)
				} else {
					checkNoOpen(t, fmt.Sprintf("profile %d, Versions %d and %d", r.profile, i, j), k, 1023, s, api.ErrNone)
				}
			}
		}
	}
}

// TestOpenLengths takes all short lengths, with the right tag and without it.
func TestOpenLengths(t *testing.T) {
	for _, r := range rows {
		k := r.keyOf(1, 1)
		least := 16 + r.tag
		for n := range least {
			s := api.Sealed{Profile: r.profile, Version: 1, Bytes: random(n, 1)}
			checkNoOpen(t, fmt.Sprintf("profile %d, %d bytes", r.profile, n), k, 1, s, api.ErrShort)
			if n >= r.tag {
				s = r.withTag(k, 1, random(n-r.tag, 1))
				checkNoOpen(t, fmt.Sprintf("profile %d, %d bytes with the tag", r.profile, n), k, 1, s, api.ErrShort)
			}
		}
		for _, n := range []int{least, least + 1, least + 65535, least + 65536} {
			s := api.Sealed{Profile: r.profile, Version: 1, Bytes: random(n, 1)}
			checkNoOpen(t, fmt.Sprintf("profile %d, %d bytes", r.profile, n), k, 1, s, api.ErrCheck)
		}
		for _, n := range []int{least + 65537, least + 65538, 1 << 17, 1<<17 + 1, 1 << 20} {
			s := api.Sealed{Profile: r.profile, Version: 1, Bytes: random(n, 1)}
			checkNoOpen(t, fmt.Sprintf("profile %d, %d bytes", r.profile, n), k, 1, s, api.ErrLong)
		}
		checkNoOpen(t, "nil", k, 1, api.Sealed{Profile: r.profile, Version: 1}, api.ErrShort)
	}
}

// TestOpenChanged changes each byte of sealed strings, and some of the longest one.
func TestOpenChanged(t *testing.T) {
	for _, r := range rows {
		k := r.keyOf(1, 1)
		for _, n := range []int{0, 1, 15, 16, 17, 31, 32, 33, 100, 65536} {
			s := r.definedSealed(k, 11, random(16, n), random(n, 1))
			step := 1
			if n > 100 {
				step = 4099
			}
			for i := 0; i < len(s.Bytes); i += step {
				for _, mask := range []byte{1, 0x80, 0xFF} {
					s.Bytes[i] ^= mask
					checkNoOpen(t, fmt.Sprintf("profile %d, %d bytes, byte %d", r.profile, n, i), k, 11, s, api.ErrCheck)
					s.Bytes[i] ^= mask
				}
			}
			checkOpen(t, k, 11, s, random(n, 1))
		}
	}
}

// TestOpenOthers takes other keys and usages, other tags, and sealed strings that were cut, lengthened or joined.
func TestOpenOthers(t *testing.T) {
	for _, r := range rows {
		k := r.keyOf(1, 1)
		s := r.definedSealed(k, 2, random(16, 1), random(100, 1))
		for i := range k.Bytes {
			other := r.keyOf(1, 1)
			other.Bytes[i] ^= 0x10
			checkNoOpen(t, "another key", other, 2, s, api.ErrCheck)
		}
		for _, usage := range []api.Usage{1, 3, 4, 258, 514, 1023} {
			checkNoOpen(t, "another usage", k, usage, s, api.ErrCheck)
		}
		cipher := s.Bytes[:116]
		for _, b := range [][]byte{
			s.Bytes[1:],
			s.Bytes[:len(s.Bytes)-1],
			slices.Concat(s.Bytes, []byte{0}),
			slices.Concat([]byte{0}, s.Bytes),
			slices.Concat(cipher, make([]byte, r.tag)),
			slices.Concat(cipher[:100], s.Bytes[116:]),
			slices.Concat(cipher, []byte{0}, s.Bytes[116:]),
			slices.Concat(cipher, hashed(r.derived(k.Bytes, 2, 0x55), cipher, make([]byte, 16))[:r.tag]),
			slices.Concat(cipher, hashed(r.derived(k.Bytes, 2, 0xAA), make([]byte, 32-r.tag), cipher)[:r.tag]),
			slices.Concat(cipher, hashed(r.derived(k.Bytes, 2, 0x99), make([]byte, 32-r.tag), cipher)[:r.tag]),
		} {
			if bytes.Equal(b, s.Bytes) {
				t.Fatal("the same string")
			}
			checkNoOpen(t, fmt.Sprintf("profile %d, %x", r.profile, b), k, 2, api.Sealed{Profile: r.profile, Version: 1, Bytes: b}, api.ErrCheck)
		}
	}
}
