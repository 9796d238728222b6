package profile

import (
	"slices"

	"watchword/api"
	"watchword/cts"
	"watchword/mac"
)

// lengths are the numbers of bytes that a profile has.
type lengths struct {
	key, confounder, tag, sum int
	iv                        int // bytes 0, which the tag covers as well
}

// definition is what makes a profile different from others.
type definition struct {
	lengths
	name             string
	encrypt, decrypt func(key, iv, text []byte) ([]byte, api.Errno) // for a confounder followed by a plaintext
}

// confounderLen is the same for all profiles, which stream relies on.
const confounderLen = 16

// definitions returns the profiles.
func definitions() map[int]definition {
	return map[int]definition{
		1: {
			lengths: lengths{key: 16, confounder: confounderLen, tag: 16, sum: 16, iv: 16},
			name:    "aes128-cts-hmac-sha256-128",
			encrypt: cts.Encrypt, decrypt: cts.Decrypt,
		},
		2: {
			lengths: lengths{key: 32, confounder: confounderLen, tag: 32, sum: 32},
			name:    "stream-hmac-sha256-256",
			encrypt: stream, decrypt: stream,
		},
	}
}

// definitionOf returns the profile of a key, and whether the key is valid.
func definitionOf(k api.Key) (definition, bool) {
	d, exists := definitions()[k.Profile]
	return d, exists && len(k.Bytes) == d.key && k.Version >= 0 && k.Version <= MaxVersion
}

// stream combines a plaintext behind its confounder with the key stream, so that it is its own inverse. It has no IV.
func stream(key, _, text []byte) ([]byte, api.Errno) {
	start, e := mac.New(key)
	if e != api.OK {
		return nil, e
	}
	result := slices.Clone(text)
	start.Write(result[:confounderLen])
	number := 0
	for block := range slices.Chunk(result[confounderLen:], mac.Size) {
		number++
		m := start.Copy()
		m.Write(encoded(number))
		mask, _ := m.Sum()
		for i := range block {
			block[i] ^= mask[i]
		}
	}
	return result, api.OK
}

// encoded returns a number in 4 bytes.
func encoded(number int) []byte {
	return []byte{byte(number >> 24), byte(number >> 16), byte(number >> 8), byte(number)}
}

// joined returns the bytes of strings, one after the other.
func joined[S string | []byte](strings ...S) []byte {
	var whole []byte
	for _, s := range strings {
		whole = append(whole, s...)
	}
	return whole
}
