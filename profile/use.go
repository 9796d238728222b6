package profile

import (
	"watchword/api"
	"watchword/derive"
	"watchword/mac"
)

// The bytes that follow the usage where a derived key is made.
const (
	encryptionKey = 0xAA
	integrityKey  = 0x55
	checksumKey   = 0x99
)

// use is a profile with the derived keys of a key for a usage.
type use struct {
	definition
	derived func(purpose byte) []byte
}

// newUse returns what a key is used for.
func newUse(k api.Key, usage api.Usage) (*use, api.Errno) {
	d, valid := definitionOf(k)
	if !valid || usage < 1 || usage > MaxUsage {
		return nil, api.ErrArg
	}
	derived := func(purpose byte) []byte {
		// Has no error, as the key is valid.
		b, _ := derive.KDF(k.Bytes, joined(encoded(int(usage)), []byte{purpose}), nil, d.key)
		return b
	}
	return &use{d, derived}, api.OK
}

// zeros returns the IV.
func (u *use) zeros() []byte { return make([]byte, u.iv) }

// tagOf returns the tag of a ciphertext.
func (u *use) tagOf(cipher []byte) []byte {
	return hashed(u.tag, u.derived(integrityKey), u.zeros(), cipher)
}

// sumOf returns the checksum of bytes.
func (u *use) sumOf(b []byte) []byte { return hashed(u.sum, u.derived(checksumKey), b) }

// hashed returns the first n bytes of a keyed hash.
func hashed(n int, key []byte, parts ...[]byte) []byte {
	// Has no error for derived keys and the lengths of profiles.
	sum, _ := mac.Truncated(n, key, parts...)
	return sum
}
