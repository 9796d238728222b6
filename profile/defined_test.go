package profile_test

import (
	"bytes"
	"encoding/binary"
	"encoding/hex"
	"math"
	"math/rand/v2"
	"slices"
	"strings"
	"testing"

	"watchword/api"
	"watchword/cts"
	"watchword/derive"
	"watchword/mac"
)

// row is a row of the chapter's table of profiles.
type row struct {
	profile                   int
	name                      string
	key, confounder, tag, sum int
}

// rows is the chapter's table of profiles.
var rows = []row{
	{1, "aes128-cts-hmac-sha256-128", 16, 16, 16, 16},
	{2, "stream-hmac-sha256-256", 32, 16, 32, 32},
}

// otherProfiles are numbers of profiles that do not exist. The lowest bits of some are those of profiles that do.
var otherProfiles = []int{math.MinInt, -1 << 32, -2, -1, 0, 3, 4, 257, 1<<32 + 1, 1<<32 + 2, math.MaxInt}

// wrongUsages are usages that are not valid. The lowest bits of some are those of valid ones.
var wrongUsages = []api.Usage{math.MinInt, -1 << 32, -1023, -2, -1, 0, 1024, 1025, 2047, 65537, 1<<32 + 1, math.MaxInt}

// wrongVersions are Versions that are not valid.
var wrongVersions = []int{math.MinInt, -1 << 32, -65536, -2, -1, 65536, 65537, 1 << 17, 1<<32 + 1, math.MaxInt}

// random returns a string of any bytes, the same one in every run for a number.
func random(n, number int) []byte {
	r := rand.New(rand.NewPCG(uint64(n), uint64(number)))
	b := make([]byte, n)
	for i := range b {
		b[i] = byte(r.Uint32())
	}
	return b
}

// number4 returns a number in 4 bytes.
func number4(n int) []byte { return binary.BigEndian.AppendUint32(nil, uint32(n)) }

// unhex returns the bytes of hexadecimal digits, which spaces may divide.
func unhex(t *testing.T, digits string) []byte {
	t.Helper()
	b, err := hex.DecodeString(strings.ReplaceAll(digits, " ", ""))
	if err != nil {
		t.Fatal(err)
	}
	return b
}

// fine checks that a lower layer has no error.
func fine(e api.Errno) {
	if e != api.OK {
		panic(e)
	}
}

// keyOf returns a valid key with any bytes.
func (r row) keyOf(version, number int) api.Key {
	return api.Key{Profile: r.profile, Version: version, Bytes: random(r.key, number)}
}

// wrongKeys returns keys that are not valid, each for one reason only.
func (r row) wrongKeys() []api.Key {
	var list []api.Key
	for _, profile := range otherProfiles {
		list = append(list, api.Key{Profile: profile, Version: 1, Bytes: random(r.key, 1)})
	}
	for _, version := range wrongVersions {
		list = append(list, api.Key{Profile: r.profile, Version: version, Bytes: random(r.key, 1)})
	}
	for _, n := range []int{0, 1, r.key - 1, r.key + 1, 48 - r.key, 64, 4097} {
		list = append(list, api.Key{Profile: r.profile, Version: 1, Bytes: random(n, 1)})
	}
	return append(list, api.Key{Profile: r.profile}, api.Key{})
}

// derived returns a derived key, as the chapter defines it.
func (r row) derived(key []byte, usage api.Usage, purpose byte) []byte {
	b, e := derive.KDF(key, append(number4(int(usage)), purpose), nil, r.key)
	fine(e)
	return b
}

// hashed returns the keyed hash of parts.
func hashed(key []byte, parts ...[]byte) []byte {
	sum, e := mac.HMAC(key, parts...)
	fine(e)
	return sum[:]
}

// definedTag returns the tag of a ciphertext, as the chapter defines it.
func (r row) definedTag(key []byte, usage api.Usage, cipher []byte) []byte {
	ki := r.derived(key, usage, 0x55)
	if r.profile == 1 {
		return hashed(ki, make([]byte, 16), cipher)[:16]
	}
	return hashed(ki, cipher)
}

// definedStream returns a plaintext combined with the key stream, as the chapter defines it.
func definedStream(ke, confounder, plain []byte) []byte {
	var keys, result []byte
	for i := 1; len(keys) < len(plain); i++ {
		keys = append(keys, hashed(ke, confounder, number4(i))...)
	}
	for i, value := range plain {
		result = append(result, value^keys[i])
	}
	return result
}

// definedCipher returns the ciphertext of a plaintext, as the chapter defines it.
func (r row) definedCipher(key []byte, usage api.Usage, confounder, plain []byte) []byte {
	ke := r.derived(key, usage, 0xAA)
	if r.profile == 1 {
		cipher, e := cts.Encrypt(ke, make([]byte, 16), slices.Concat(confounder, plain))
		fine(e)
		return cipher
	}
	return slices.Concat(confounder, definedStream(ke, confounder, plain))
}

// definedPlain returns the plaintext of a ciphertext, as the chapter defines it.
func (r row) definedPlain(key []byte, usage api.Usage, cipher []byte) []byte {
	ke := r.derived(key, usage, 0xAA)
	if r.profile == 1 {
		text, e := cts.Decrypt(ke, make([]byte, 16), cipher)
		fine(e)
		return text[16:]
	}
	return definedStream(ke, cipher[:16], cipher[16:])
}

// definedSealed returns the sealed string of a plaintext, as the chapter defines it.
func (r row) definedSealed(k api.Key, usage api.Usage, confounder, plain []byte) api.Sealed {
	return r.withTag(k, usage, r.definedCipher(k.Bytes, usage, confounder, plain))
}

// withTag returns the sealed string with a ciphertext.
func (r row) withTag(k api.Key, usage api.Usage, cipher []byte) api.Sealed {
	tag := r.definedTag(k.Bytes, usage, cipher)
	return api.Sealed{Profile: k.Profile, Version: k.Version, Bytes: slices.Concat(cipher, tag)}
}

// definedSum returns the checksum of bytes, as the chapter defines it.
func (r row) definedSum(key []byte, usage api.Usage, b []byte) []byte {
	return hashed(r.derived(key, usage, 0x99), b)[:r.sum]
}

// definedPassword returns the bytes of the key of a password, as the chapter defines them.
func (r row) definedPassword(password, salt string, iterations int) []byte {
	secret, e := derive.Password([]byte(password), []byte(r.name+"\x00"+salt), iterations, r.key)
	fine(e)
	b, e := derive.KDF(secret, []byte("kerberos"), nil, r.key)
	fine(e)
	return b
}

// inMemory returns copies of strings that lie in one memory, with other bytes between them, and a function that checks that this is unchanged.
func inMemory(args ...[]byte) ([][]byte, func(t *testing.T)) {
	const gap = 70
	var memory []byte
	for i, arg := range args {
		memory = slices.Concat(memory, random(gap, i), arg)
	}
	memory = append(memory, random(gap, len(args))...)
	var inside [][]byte
	rest := memory
	for _, arg := range args {
		rest = rest[gap:]
		inside = append(inside, rest[:len(arg)])
		rest = rest[len(arg):]
	}
	kept := bytes.Clone(memory)
	return inside, func(t *testing.T) {
		t.Helper()
		if !bytes.Equal(memory, kept) {
			t.Errorf("arguments of %d strings are modified", len(args))
		}
	}
}

// overwrite writes to a result and behind it.
func overwrite(b []byte) {
	b = b[:cap(b)]
	for i := range b {
		b[i] ^= 0xFF
	}
}

// sealedEqual reports whether two sealed strings are equal.
func sealedEqual(a, b api.Sealed) bool {
	return a.Profile == b.Profile && a.Version == b.Version && bytes.Equal(a.Bytes, b.Bytes)
}

// keysEqual reports whether two keys are equal.
func keysEqual(a, b api.Key) bool {
	return a.Profile == b.Profile && a.Version == b.Version && bytes.Equal(a.Bytes, b.Bytes)
}
