package profile_test

import (
	"bytes"
	"slices"
	"testing"

	"watchword/api"
	"watchword/profile"
)

// textLengths are numbers of bytes of which checksums are taken.
var textLengths = []int{0, 1, 2, 55, 56, 63, 64, 65, 1000, 65537, 1 << 18}

// checkVerify checks the error of Verify, and that it changes no argument.
func checkVerify(t *testing.T, k api.Key, usage api.Usage, b, sum []byte, want api.Errno) {
	t.Helper()
	inside, unchanged := inMemory(k.Bytes, b, sum)
	k.Bytes = inside[0]
	if e := profile.Verify(k, usage, inside[1], inside[2]); e != want {
		t.Errorf("a key of profile %d with Version %d and %d bytes, usage %d, %d bytes, %x: error %d instead of %d",
			k.Profile, k.Version, len(k.Bytes), usage, len(b), sum, e, want)
	}
	unchanged(t)
}

// checkSum compares Sum with a checksum twice, and checks that it changes no argument and that its results are new memory.
func checkSum(t *testing.T, k api.Key, usage api.Usage, b, want []byte) {
	t.Helper()
	inside, unchanged := inMemory(k.Bytes, b)
	k.Bytes = inside[0]
	for range 2 {
		got, e := profile.Sum(k, usage, inside[1])
		if !bytes.Equal(got, want) || e != api.OK {
			t.Fatalf("a key of profile %d with Version %d, usage %d, %d bytes: %x, error %d instead of %x", k.Profile, k.Version, usage, len(b), got, e, want)
		}
		overwrite(got)
	}
	unchanged(t)
}

// TestSum compares Sum and Verify with the definition.
func TestSum(t *testing.T) {
	for _, r := range rows {
		for _, n := range textLengths {
			for _, usage := range someUsages {
				k, b := r.keyOf(int(usage)*64, n), random(n, int(usage))
				want := r.definedSum(k.Bytes, usage, b)
				checkSum(t, k, usage, b, want)
				checkVerify(t, k, usage, b, want, api.OK)
			}
		}
	}
}

// TestSumNil takes nil and empty strings.
func TestSumNil(t *testing.T) {
	for _, r := range rows {
		k := r.keyOf(0, 1)
		want := r.definedSum(k.Bytes, 6, nil)
		for _, b := range [][]byte{nil, {}} {
			if got, e := profile.Sum(k, 6, b); !bytes.Equal(got, want) || e != api.OK {
				t.Errorf("profile %d: %x, error %d instead of %x", r.profile, got, e, want)
			}
			if e := profile.Verify(k, 6, b, want); e != api.OK {
				t.Errorf("profile %d: error %d", r.profile, e)
			}
			for _, sum := range [][]byte{nil, {}} {
				if e := profile.Verify(k, 6, b, sum); e != api.ErrCheck {
					t.Errorf("profile %d: error %d without a checksum", r.profile, e)
				}
			}
		}
	}
}

// TestSumPublished checks the checksum of RFC 8009 with aes128-cts-hmac-sha256-128, which is profile 1.
func TestSumPublished(t *testing.T) {
	k := api.Key{Profile: 1, Bytes: unhex(t, "3705D96080C17728A0E800EAB6E0D23C")}
	b := unhex(t, "000102030405060708090A0B0C0D0E0F1011121314")
	want := unhex(t, "D78367186643D67B411CBA9139FC1DEE")
	checkSum(t, k, 2, b, want)
	checkVerify(t, k, 2, b, want, api.OK)
}

// TestVerifyOther takes checksums with a byte changed, shorter and longer ones, and those of others.
func TestVerifyOther(t *testing.T) {
	for _, r := range rows {
		for _, n := range []int{0, 1, 64, 1000} {
			k, b := r.keyOf(1, n), random(n, 1)
			want := r.definedSum(k.Bytes, 15, b)
			for i := range want {
				for _, mask := range []byte{1, 0x80, 0xFF} {
					sum := bytes.Clone(want)
					sum[i] ^= mask
					checkVerify(t, k, 15, b, sum, api.ErrCheck)
				}
				checkVerify(t, k, 15, b, want[:i], api.ErrCheck)
				checkVerify(t, k, 15, b, want[i+1:], api.ErrCheck)
			}
			whole := hashed(r.derived(k.Bytes, 15, 0x99), b)
			for _, more := range [][]byte{{0}, {1}, append(whole, 0)[r.sum:], whole[:r.sum], make([]byte, 32), random(5000, 1)} {
				checkVerify(t, k, 15, b, slices.Concat(want, more), api.ErrCheck)
			}
			checkVerify(t, k, 15, b, make([]byte, r.sum), api.ErrCheck)
			checkVerify(t, k, 16, b, want, api.ErrCheck)
			checkVerify(t, r.keyOf(1, n+1), 15, b, want, api.ErrCheck)
			checkVerify(t, k, 15, append(b, 0), want, api.ErrCheck)
			for _, purpose := range []byte{0xAA, 0x55} {
				checkVerify(t, k, 15, b, hashed(r.derived(k.Bytes, 15, purpose), b)[:r.sum], api.ErrCheck)
			}
		}
	}
}

// TestSumErrors takes wrong keys and usages, with and without a checksum.
func TestSumErrors(t *testing.T) {
	for _, r := range rows {
		right, b := r.keyOf(1, 1), random(20, 1)
		want := r.definedSum(right.Bytes, 1, b)
		check := func(k api.Key, usage api.Usage) {
			t.Helper()
			if got, e := profile.Sum(k, usage, b); e != api.ErrArg || got != nil {
				t.Errorf("a key of profile %d with Version %d and %d bytes, usage %d: %x, error %d", k.Profile, k.Version, len(k.Bytes), usage, got, e)
			}
			for _, sum := range [][]byte{want, want[:4], nil} {
				checkVerify(t, k, usage, b, sum, api.ErrArg)
			}
		}
		for _, k := range r.wrongKeys() {
			check(k, 1)
			check(k, 0)
		}
		for _, usage := range wrongUsages {
			check(right, usage)
		}
	}
}
