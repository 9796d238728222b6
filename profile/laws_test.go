package profile_test

import (
	"bytes"
	"slices"
	"testing"

	"watchword/api"
	"watchword/profile"
)

// sealed returns the sealed string of a plaintext, which must not be an error.
func sealed(t *testing.T, k api.Key, usage api.Usage, confounder, plain []byte) api.Sealed {
	t.Helper()
	s, e := profile.Seal(k, usage, confounder, plain)
	if e != api.OK {
		t.Fatalf("a key of profile %d, usage %d, %d bytes: error %d", k.Profile, usage, len(plain), e)
	}
	return s
}

// TestInverse opens what was sealed, seals it again, and checks the lengths.
func TestInverse(t *testing.T) {
	lengths := []int{1000, 4096, 65535, 65536}
	for n := range 200 {
		lengths = append(lengths, n)
	}
	for _, r := range rows {
		for _, n := range lengths {
			k, usage := r.keyOf(n%65536, n), api.Usage(1+n%1023)
			confounder, plain := random(16, n+1), random(n, n)
			first := sealed(t, k, usage, confounder, plain)
			if first.Profile != k.Profile || first.Version != k.Version || len(first.Bytes) != n+16+r.tag {
				t.Errorf("profile %d, %d bytes: %d bytes of profile %d with Version %d", r.profile, n, len(first.Bytes), first.Profile, first.Version)
			}
			if got, e := profile.Open(k, usage, first); !bytes.Equal(got, plain) || e != api.OK {
				t.Errorf("profile %d, %d bytes: %.20x, error %d instead of %.20x", r.profile, n, got, e, plain)
			}
			again := sealed(t, api.Key{Profile: k.Profile, Version: k.Version, Bytes: bytes.Clone(k.Bytes)}, usage, bytes.Clone(confounder), bytes.Clone(plain))
			if !sealedEqual(first, again) {
				t.Errorf("profile %d, %d bytes: sealing again gives another string", r.profile, n)
			}
		}
	}
}

// TestAnyCipher gives the right tag to ciphertexts of any bytes: Open has no error, and gives what they contain.
func TestAnyCipher(t *testing.T) {
	for _, r := range rows {
		for _, n := range []int{16, 17, 31, 32, 33, 48, 100, 65552} {
			for i := range 5 {
				k, cipher := r.keyOf(1, i), random(n, i)
				s := r.withTag(k, 12, cipher)
				want := r.definedPlain(k.Bytes, 12, cipher)
				checkOpen(t, k, 12, s, want)
				s.Bytes[len(s.Bytes)-1] ^= 1
				checkNoOpen(t, "another tag", k, 12, s, api.ErrCheck)
			}
		}
	}
}

// TestDifferent changes each argument of Seal: no two sealed strings have equal ciphertexts, or equal tags.
func TestDifferent(t *testing.T) {
	for _, r := range rows {
		k, confounder, plain := r.keyOf(1, 1), random(16, 1), random(40, 1)
		var ciphers, tags [][]byte
		add := func(usage api.Usage) {
			b := sealed(t, k, usage, confounder, plain).Bytes
			// The confounder is in the ciphertext of profile 2 as it is.
			ciphers, tags = append(ciphers, b[16:56]), append(tags, b[56:])
		}
		for usage := range api.Usage(1023) {
			add(usage + 1)
		}
		for _, arg := range [][]byte{k.Bytes, confounder, plain} {
			for i := range arg {
				arg[i] ^= 0x40
				add(1)
				arg[i] ^= 0x40
			}
		}
		count := 1023 + r.key + 16 + 40
		for _, list := range [][][]byte{ciphers, tags} {
			slices.SortFunc(list, bytes.Compare)
			if n := len(slices.CompactFunc(list, bytes.Equal)); n != count {
				t.Errorf("profile %d: %d different ones instead of %d", r.profile, n, count)
			}
		}
	}
}

// TestVersionOnly checks that the Version of a key is only written beside what was sealed.
func TestVersionOnly(t *testing.T) {
	for _, r := range rows {
		want := sealed(t, r.keyOf(0, 1), 1, random(16, 1), random(30, 1))
		for _, version := range []int{1, 2, 65535} {
			want.Version = version
			if got := sealed(t, r.keyOf(version, 1), 1, random(16, 1), random(30, 1)); !sealedEqual(got, want) {
				t.Errorf("profile %d, Version %d: %v instead of %v", r.profile, version, got, want)
			}
		}
	}
}

// TestExamples checks the table of the chapter.
func TestExamples(t *testing.T) {
	lengths := []int{profile.KeyLen(1), profile.SumLen(2), profile.TagLen(1), profile.ConfounderLen(2), profile.KeyLen(3)}
	if want := []int{16, 32, 16, 16, 0}; !slices.Equal(lengths, want) {
		t.Errorf("%v instead of %v", lengths, want)
	}
	for i, want := range []int{37, 53} {
		if s := sealed(t, rows[i].keyOf(1, 1), 1, random(16, 1), random(5, 1)); len(s.Bytes) != want {
			t.Errorf("profile %d: %d bytes instead of %d", i+1, len(s.Bytes), want)
		}
	}
	k := rows[0].keyOf(1, 1)
	s := sealed(t, k, 1, random(16, 1), random(5, 1))
	other := rows[0].keyOf(2, 1)
	checkNoOpen(t, "another Version", other, 1, s, api.ErrNone)
	checkNoOpen(t, "31 bytes", k, 1, api.Sealed{Profile: 1, Version: 1, Bytes: random(31, 1)}, api.ErrShort)
	checkNoOpen(t, "Profile 2", k, 1, sealed(t, rows[1].keyOf(1, 1), 1, random(16, 1), random(5, 1)), api.ErrNone)
	if limits := []int{profile.MaxVersion, profile.MaxUsage, profile.MaxPlain}; !slices.Equal(limits, []int{65535, 1023, 65536}) {
		t.Error(limits)
	}
	// Worked example 3 of the document.
	if n := len(sealed(t, k, 1, random(16, 1), random(100, 1)).Bytes); n != 132 {
		t.Errorf("profile 1: %d bytes of 100", n)
	}
}
