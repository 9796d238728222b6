package aes_test

import (
	"bytes"
	"iter"
	"slices"
	"testing"

	"watchword/aes"
	"watchword/api"
)

// checkKeys checks that an iterator yields the round keys of a key with their numbers, up to a number of them at which the loop is left.
func checkKeys(t *testing.T, what string, key []byte, keys iter.Seq2[int, []byte], limit int) {
	t.Helper()
	want := definedKeys(key)
	n := 0
	for i, got := range keys {
		if n >= len(want) {
			t.Fatalf("%s, key %x: more than %d round keys", what, key, n)
		}
		if i != n || !bytes.Equal(got, want[n]) {
			t.Errorf("%s, key %x: round key %d is number %d, %x instead of %x", what, key, n, i, got, want[n])
		}
		if n++; n == limit {
			break
		}
	}
	if n != min(limit, 11) {
		t.Errorf("%s, key %x: %d round keys instead of %d", what, key, n, min(limit, 11))
	}
}

// checkCipher checks that a cipher has a key: its round keys, and what it does with a block.
func checkCipher(t *testing.T, what string, c *aes.Cipher, key []byte) {
	t.Helper()
	checkKeys(t, what, key, c.Keys(), 100)
	b := random(16, 9)
	if got, e := c.Encrypt(b); !bytes.Equal(got, definedEncrypt(key, b)) || e != api.OK {
		t.Errorf("%s, key %x: Encrypt is %x, error %d", what, key, got, e)
	}
	if got, e := c.Decrypt(b); !bytes.Equal(got, definedDecrypt(key, b)) || e != api.OK {
		t.Errorf("%s, key %x: Decrypt is %x, error %d", what, key, got, e)
	}
}

func TestNew(t *testing.T) {
	for _, key := range samples() {
		checkCipher(t, "New", newCipher(t, key), key)
	}
}

func TestNewWrong(t *testing.T) {
	for _, n := range append([]int{15, 17}, wrongLengths...) {
		for _, b := range []byte{0, 1, 0xff} {
			key := bytes.Repeat([]byte{b}, n)
			if c, e := aes.New(key); c != nil || e != api.ErrArg {
				t.Errorf("a key of %d bytes: %v, error %d", n, c, e)
			}
		}
		// More bytes behind the key in memory do not make it longer, or shorter.
		if c, e := aes.New(random(n+64, n)[:n]); c != nil || e != api.ErrArg {
			t.Errorf("a key of %d bytes of more: %v, error %d", n, c, e)
		}
	}
	for _, key := range [][]byte{nil, {}} {
		if c, e := aes.New(key); c != nil || e != api.ErrArg {
			t.Errorf("a key %v: %v, error %d", key, c, e)
		}
	}
}

// TestKeysPublished checks the round keys of FIPS 197.
func TestKeysPublished(t *testing.T) {
	want := unhex(t, `2b7e151628aed2a6abf7158809cf4f3c
		a0fafe1788542cb123a339392a6c7605 f2c295f27a96b9435935807a7359f67f
		3d80477d4716fe3e1e237e446d7a883b ef44a541a8525b7fb671253bdb0bad00
		d4d1c6f87c839d87caf2b8bc11f915bc 6d88a37a110b3efddbf98641ca0093fd
		4e54f70e5f5fc9f384a64fb24ea6dc4f ead27321b58dbad2312bf5607f8d292f
		ac7766f319fadc2128d12941575c006e d014f9a8c9ee2589e13f0cc8b6630ca6`)
	got := []byte{}
	for i, key := range newCipher(t, want[:16]).Keys() {
		if 16*i != len(got) {
			t.Errorf("number %d after %d bytes", i, len(got))
		}
		got = append(got, key...)
	}
	if !bytes.Equal(got, want) {
		t.Errorf("%x instead of %x", got, want)
	}
}

// TestKeysAgain leaves loops over one iterator after each number of round keys.
func TestKeysAgain(t *testing.T) {
	for _, key := range samples() {
		keys := newCipher(t, key).Keys()
		for limit := 1; limit <= 12; limit++ {
			checkKeys(t, "left early", key, keys, limit)
			checkKeys(t, "again", key, keys, 100)
		}
	}
}

// TestKeysNested uses an iterator, and its cipher, within its own loop.
func TestKeysNested(t *testing.T) {
	key := random(16, 1)
	c := newCipher(t, key)
	keys := c.Keys()
	outer := func(yield func(int, []byte) bool) {
		for i, b := range keys {
			checkKeys(t, "inner loop", key, keys, 3)
			checkCipher(t, "inner loop", c, key)
			if !yield(i, b) {
				return
			}
		}
	}
	checkKeys(t, "outer loop", key, outer, 100)
}

// TestKeyChanged changes the key after New.
func TestKeyChanged(t *testing.T) {
	for _, key := range samples() {
		given := slices.Concat(key, random(40, 2))
		c := newCipher(t, given[:16])
		if !bytes.Equal(given, slices.Concat(key, random(40, 2))) {
			t.Errorf("key %x: modified", key)
		}
		keys := c.Keys()
		for i := range given {
			given[i] ^= 0x5a
		}
		checkKeys(t, "the key is changed", key, keys, 100)
		checkCipher(t, "the key is changed", c, key)
	}
}

// TestKeysWritten writes to yielded round keys, and behind them, within the loop and after it.
func TestKeysWritten(t *testing.T) {
	key := random(16, 3)
	c := newCipher(t, key)
	keys := c.Keys()
	var all [][]byte
	spoiling := func(yield func(int, []byte) bool) {
		for i, b := range keys {
			more := yield(i, b)
			for j := range b {
				b[j] ^= 0xff
			}
			_ = append(b, random(70, 4)...)
			all = append(all, b)
			if !more {
				return
			}
		}
	}
	for range 2 {
		checkKeys(t, "written in the loop", key, spoiling, 100)
		checkKeys(t, "written in the loop before", key, keys, 100)
		checkCipher(t, "round keys are written", c, key)
	}
	if len(all) != 22 {
		t.Fatalf("%d round keys", len(all))
	}
	for i, b := range all {
		for j := range b {
			b[j] = byte(i)
		}
	}
	for i, b := range all {
		if !bytes.Equal(b, bytes.Repeat([]byte{byte(i)}, 16)) {
			t.Errorf("round key %d: %x", i, b)
		}
	}
	checkCipher(t, "round keys are written", c, key)
}

// TestKeysOfNone takes the round keys of a nil and of a zero Cipher.
func TestKeysOfNone(t *testing.T) {
	for _, c := range []*aes.Cipher{nil, {}, new(aes.Cipher)} {
		keys := c.Keys()
		for range 2 {
			for i, b := range keys {
				t.Errorf("round key %d: %x", i, b)
			}
		}
	}
}

// TestManyCiphers checks that ciphers do not change each other.
func TestManyCiphers(t *testing.T) {
	list := samples()
	var ciphers []*aes.Cipher
	for _, key := range list {
		ciphers = append(ciphers, newCipher(t, key))
	}
	for i, c := range ciphers {
		checkCipher(t, "one of many", c, list[i])
	}
	same := newCipher(t, list[0])
	if same == ciphers[0] {
		t.Error("two ciphers are the same one")
	}
	checkCipher(t, "once more", same, list[0])
}
