package profile_test

import (
	"bytes"
	"testing"

	"watchword/api"
	"watchword/profile"
)

// plainLengths are numbers of bytes of plaintexts, with those at the edges of the blocks of both profiles among them.
var plainLengths = []int{0, 1, 2, 15, 16, 17, 31, 32, 33, 47, 48, 49, 63, 64, 65, 100, 255, 256, 1000, 65535, 65536}

// someUsages are usages, with the least and the greatest one among them.
var someUsages = []api.Usage{1, 2, 22, 255, 256, 257, 1022, 1023}

// checkSeal compares Seal with a sealed string twice, and checks that it changes no argument and that its results are new memory.
func checkSeal(t *testing.T, k api.Key, usage api.Usage, confounder, plain []byte, want api.Sealed) {
	t.Helper()
	inside, unchanged := inMemory(k.Bytes, confounder, plain)
	k.Bytes = inside[0]
	for range 2 {
		got, e := profile.Seal(k, usage, inside[1], inside[2])
		if !sealedEqual(got, want) || e != api.OK {
			t.Fatalf("a key of profile %d with Version %d, usage %d, %d bytes: %v, error %d instead of %v", k.Profile, k.Version, usage, len(plain), got, e, want)
		}
		overwrite(got.Bytes)
	}
	unchanged(t)
}

// checkOpen compares Open with a plaintext twice, and checks that it changes no argument and that its results are new memory.
func checkOpen(t *testing.T, k api.Key, usage api.Usage, s api.Sealed, want []byte) {
	t.Helper()
	inside, unchanged := inMemory(k.Bytes, s.Bytes)
	k.Bytes, s.Bytes = inside[0], inside[1]
	for range 2 {
		got, e := profile.Open(k, usage, s)
		if !bytes.Equal(got, want) || e != api.OK {
			t.Fatalf("a key of profile %d with Version %d, usage %d, %d bytes: %x, error %d instead of %x", k.Profile, k.Version, usage, len(s.Bytes), got, e, want)
		}
		overwrite(got)
	}
	unchanged(t)
}

// TestSealOpen compares both functions with the definitions.
func TestSealOpen(t *testing.T) {
	for _, r := range rows {
		for i, n := range plainLengths {
			for j, usage := range someUsages {
				if n > 1000 && usage > 1 && usage < 1023 {
					continue
				}
				k := r.keyOf([]int{0, 1, 2, 256, 65535}[(i+j)%5], n)
				confounder, plain := random(16, n), random(n, j)
				want := r.definedSealed(k, usage, confounder, plain)
				checkSeal(t, k, usage, confounder, plain, want)
				checkOpen(t, k, usage, want, plain)
			}
		}
	}
}

// TestSealOpenAll takes all usages and all short plaintexts.
func TestSealOpenAll(t *testing.T) {
	for _, r := range rows {
		for i := range profile.MaxUsage {
			k, usage := r.keyOf(i, i), api.Usage(i+1)
			confounder, plain := random(16, i), random(i%300, i)
			want := r.definedSealed(k, usage, confounder, plain)
			checkSeal(t, k, usage, confounder, plain, want)
			checkOpen(t, k, usage, want, plain)
		}
	}
}

// TestSealNil takes nil and empty plaintexts, and strings of bytes 0.
func TestSealNil(t *testing.T) {
	for _, r := range rows {
		k, confounder := r.keyOf(7, 1), random(16, 1)
		want := r.definedSealed(k, 3, confounder, nil)
		for _, plain := range [][]byte{nil, {}} {
			if got, e := profile.Seal(k, 3, confounder, plain); !sealedEqual(got, want) || e != api.OK {
				t.Errorf("profile %d: %v, error %d instead of %v", r.profile, got, e, want)
			}
		}
		if got, e := profile.Open(k, 3, want); len(got) != 0 || e != api.OK {
			t.Errorf("profile %d: %x, error %d", r.profile, got, e)
		}
		zero := api.Key{Profile: r.profile, Bytes: make([]byte, r.key)}
		for _, n := range plainLengths[:16] {
			want := r.definedSealed(zero, 1, make([]byte, 16), make([]byte, n))
			checkSeal(t, zero, 1, make([]byte, 16), make([]byte, n), want)
			checkOpen(t, zero, 1, want, make([]byte, n))
		}
	}
}

// TestSealOneMemory takes the same memory for all arguments.
func TestSealOneMemory(t *testing.T) {
	for _, r := range rows {
		memory := random(r.key, 5)
		kept := bytes.Clone(memory)
		k := api.Key{Profile: r.profile, Version: 9, Bytes: memory}
		want := r.definedSealed(k, 8, kept[:16], kept)
		got, e := profile.Seal(k, 8, memory[:16], memory)
		if !sealedEqual(got, want) || e != api.OK || !bytes.Equal(memory, kept) {
			t.Errorf("profile %d: %v, error %d instead of %v", r.profile, got, e, want)
		}
	}
}

// TestPublished checks the encryptions of RFC 8009 with aes128-cts-hmac-sha256-128, which is profile 1.
func TestPublished(t *testing.T) {
	k := api.Key{Profile: 1, Bytes: unhex(t, "3705D96080C17728A0E800EAB6E0D23C")}
	for _, row := range []struct{ plain, confounder, want string }{
		{"", "7E5895EAF2672435BAD817F545A37148",
			"EF85FB890BB8472F4DAB20394DCA781DAD877EDA39D50C870C0D5A0A8E48C718"},
		{"000102030405", "7BCA285E2FD4130FB55B1A5C83BC5B24",
			"84D7F30754ED987BAB0BF3506BEB09CFB55402CEF7E6877CE99E247E52D16ED4421DFDF8976C"},
		{"000102030405060708090A0B0C0D0E0F", "56AB21713FF62C0A1457200F6FA9948F",
			"3517D640F50DDC8AD3628722B3569D2AE07493FA8263254080EA65C1008E8FC295FB4852E7D83E1E7C48C37EEBE6B0D3"},
		{"000102030405060708090A0B0C0D0E0F1011121314", "A7A4E29A4728CE10664FB64E49AD3FAC",
			"720F73B18D9859CD6CCB4346115CD336C70F58EDC0C4437C5573544C31C813BCE1E6D072C186B39A413C2F92CA9B8334A287FFCBFC"},
	} {
		plain, want := unhex(t, row.plain), api.Sealed{Profile: 1, Bytes: unhex(t, row.want)}
		checkSeal(t, k, 2, unhex(t, row.confounder), plain, want)
		checkOpen(t, k, 2, want, plain)
	}
}

// checkNoSeal checks that Seal returns ErrArg and nothing else.
func checkNoSeal(t *testing.T, k api.Key, usage api.Usage, confounder, plain []byte) {
	t.Helper()
	if got, e := profile.Seal(k, usage, confounder, plain); e != api.ErrArg || !sealedEqual(got, api.Sealed{}) {
		t.Errorf("a key of profile %d with Version %d and %d bytes, usage %d, a confounder of %d bytes, %d bytes: %d bytes, error %d",
			k.Profile, k.Version, len(k.Bytes), usage, len(confounder), len(plain), len(got.Bytes), e)
	}
}

// TestSealErrors takes arguments of which one is not allowed, and all of which are not.
func TestSealErrors(t *testing.T) {
	for _, r := range rows {
		right, confounder, plain := r.keyOf(1, 1), random(16, 1), random(20, 1)
		for _, k := range r.wrongKeys() {
			checkNoSeal(t, k, 1, confounder, plain)
			checkNoSeal(t, k, 1, confounder, nil)
			checkNoSeal(t, k, 0, nil, make([]byte, 65537))
		}
		for _, usage := range wrongUsages {
			checkNoSeal(t, right, usage, confounder, plain)
			checkNoSeal(t, right, usage, random(15, 1), make([]byte, 65537))
		}
		for _, n := range []int{0, 1, 8, 14, 15, 17, 18, 24, 32, 48, 64, 65536} {
			checkNoSeal(t, right, 1, random(n, 1), plain)
			checkNoSeal(t, right, 1, random(n, 1), nil)
			checkNoSeal(t, right, 1, random(n, 1), make([]byte, 65536))
		}
		checkNoSeal(t, right, 1, nil, plain)
		// Whether the sum of the lengths is allowed does not count.
		checkNoSeal(t, right, 1, random(17, 1), make([]byte, 65535))
		checkNoSeal(t, right, 1, random(15, 1), make([]byte, 65537))
		for _, n := range []int{65537, 65538, 65552, 1<<17 - 16, 1<<17 - 15, 1 << 17, 1 << 20} {
			checkNoSeal(t, right, 1, confounder, make([]byte, n))
		}
	}
}
