package aes_test

import (
	"bytes"
	library "crypto/aes"
	"math/rand/v2"
	"slices"
	"testing"

	"watchword/aes"
	"watchword/api"
)

// wrongLengths are lengths of strings that are neither keys nor blocks.
var wrongLengths = []int{0, 1, 4, 8, 14, 15, 17, 18, 24, 31, 32, 33, 48, 64, 255, 256, 272, 1<<16 + 16}

// random returns a string of any bytes, the same one in every run for a number.
func random(n, number int) []byte {
	r := rand.New(rand.NewPCG(uint64(n), uint64(number)))
	b := make([]byte, n)
	for i := range b {
		b[i] = byte(r.Uint32())
	}
	return b
}

// samples returns keys or blocks: of equal bytes, of counted ones, with single bits, and of any bytes.
func samples() [][]byte {
	var list [][]byte
	for _, b := range []byte{0, 1, 0x52, 0x63, 0x80, 0xff} {
		list = append(list, bytes.Repeat([]byte{b}, 16))
	}
	counted := make([]byte, 16)
	for i := range counted {
		counted[i] = byte(i)
	}
	list = append(list, counted)
	for i := 0; i < 128; i += 9 {
		b := make([]byte, 16)
		b[i/8] = 0x80 >> (i % 8)
		list = append(list, b)
	}
	for i := range 10 {
		list = append(list, random(16, i))
	}
	return list
}

// newCipher returns the cipher with a key.
func newCipher(t *testing.T, key []byte) *aes.Cipher {
	t.Helper()
	c, e := aes.New(key)
	if c == nil || e != api.OK {
		t.Fatalf("New with the key %x: %v, error %d", key, c, e)
	}
	return c
}

// method is a method of a cipher: Encrypt or Decrypt.
type method func(c *aes.Cipher, b []byte) ([]byte, api.Errno)

// checkBlock checks what a method returns for a block that lies in the middle of memory, and that it changes none of this.
func checkBlock(t *testing.T, name string, call method, key, b, want []byte) {
	t.Helper()
	memory := slices.Concat(random(9, 9), b, random(40, 9))
	kept := bytes.Clone(memory)
	c := newCipher(t, key)
	for range 2 {
		got, e := call(c, memory[9:9+len(b)])
		if !bytes.Equal(got, want) || e != api.OK {
			t.Errorf("%s with the key %x of %x: %x, error %d instead of %x", name, key, b, got, e, want)
		}
		for i := range got {
			got[i] ^= 0xff
		}
		_ = append(got, random(50, 8)...)
	}
	if !bytes.Equal(memory, kept) {
		t.Errorf("%s with the key %x of %x: modified", name, key, b)
	}
}

// checkPair checks that one block is the other one encrypted.
func checkPair(t *testing.T, key, plain, encrypted []byte) {
	t.Helper()
	checkBlock(t, "Encrypt", (*aes.Cipher).Encrypt, key, plain, encrypted)
	checkBlock(t, "Decrypt", (*aes.Cipher).Decrypt, key, encrypted, plain)
}

func TestEncryptDecrypt(t *testing.T) {
	for _, key := range samples() {
		for _, b := range samples() {
			checkPair(t, key, b, definedEncrypt(key, b))
			checkPair(t, key, definedDecrypt(key, b), b)
		}
	}
}

// TestLibrary compares with the library, for many keys and blocks.
func TestLibrary(t *testing.T) {
	want := make([]byte, 16)
	for i := range 3000 {
		key, b := random(16, 2*i), random(16, 2*i+1)
		l, err := library.NewCipher(key)
		if err != nil {
			t.Fatal(err)
		}
		l.Encrypt(want, b)
		checkPair(t, key, b, want)
		l.Decrypt(want, b)
		checkPair(t, key, want, b)
	}
}

// TestBits takes keys and blocks with one bit, and with all bits but one.
func TestBits(t *testing.T) {
	for i := range 128 {
		for _, rest := range []byte{0, 0xff} {
			b := bytes.Repeat([]byte{rest}, 16)
			b[i/8] ^= 0x80 >> (i % 8)
			other := random(16, i)
			checkPair(t, b, other, definedEncrypt(b, other))
			checkPair(t, other, b, definedEncrypt(other, b))
			checkPair(t, other, definedDecrypt(other, b), b)
		}
	}
}

// TestPublished checks vectors of FIPS 197 and of SP 800-38A.
func TestPublished(t *testing.T) {
	const key = "2b7e151628aed2a6abf7158809cf4f3c"
	for _, known := range []struct{ key, plain, encrypted string }{
		{"000102030405060708090a0b0c0d0e0f", "00112233445566778899aabbccddeeff", "69c4e0d86a7b0430d8cdb78070b4c55a"},
		{key, "3243f6a8885a308d313198a2e0370734", "3925841d02dc09fbdc118597196a0b32"},
		{key, "6bc1bee22e409f96e93d7e117393172a", "3ad77bb40d7a3660a89ecaf32466ef97"},
		{key, "ae2d8a571e03ac9c9eb76fac45af8e51", "f5d3d58503b9699de785895a96fdbaaf"},
		{key, "30c81c46a35ce411e5fbc1191a0a52ef", "43b1cd7f598ece23881b00e3ed030688"},
		{key, "f69f2445df4f9b17ad2b417be66c3710", "7b0c785e27e8ad3f8223207104725dd4"},
	} {
		checkPair(t, unhex(t, known.key), unhex(t, known.plain), unhex(t, known.encrypted))
	}
}

// checkError checks that both methods return an error for a block, and leave it as it is.
func checkError(t *testing.T, c *aes.Cipher, b []byte, want api.Errno) {
	t.Helper()
	kept := bytes.Clone(b)
	for name, call := range map[string]method{"Encrypt": (*aes.Cipher).Encrypt, "Decrypt": (*aes.Cipher).Decrypt} {
		if got, e := call(c, b); got != nil || e != want {
			t.Errorf("%s of %d bytes: %x, error %d instead of %d", name, len(b), got, e, want)
		}
	}
	if !bytes.Equal(b, kept) {
		t.Errorf("%d bytes: modified", len(b))
	}
}

func TestWrongBlock(t *testing.T) {
	key := random(16, 0)
	c := newCipher(t, key)
	for _, n := range wrongLengths {
		checkError(t, c, make([]byte, n), api.ErrArg)
		checkError(t, c, random(n, 0), api.ErrArg)
		checkError(t, c, random(n+64, 0)[:n], api.ErrArg)
	}
	checkError(t, c, nil, api.ErrArg)
	checkError(t, c, []byte{}, api.ErrArg)
	checkCipher(t, "after errors", c, key)
}

// TestNilAndZero calls the methods of a nil and of a zero Cipher, also with blocks that are wrong.
func TestNilAndZero(t *testing.T) {
	var zero aes.Cipher
	for _, c := range []*aes.Cipher{nil, &zero, new(aes.Cipher)} {
		for _, n := range append([]int{16}, wrongLengths...) {
			checkError(t, c, make([]byte, n), api.ErrNil)
			checkError(t, c, random(n, 0), api.ErrNil)
		}
		checkError(t, c, nil, api.ErrNil)
	}
	if zero != (aes.Cipher{}) {
		t.Error("the zero Cipher is modified")
	}
}

// TestMemory checks that no two results share memory, nor a result with its argument.
func TestMemory(t *testing.T) {
	c, b := newCipher(t, random(16, 0)), random(16, 1)
	kept := bytes.Clone(b)
	var all [][]byte
	for range 10 {
		for _, call := range []method{(*aes.Cipher).Encrypt, (*aes.Cipher).Decrypt} {
			got, e := call(c, b)
			if e != api.OK {
				t.Fatalf("error %d", e)
			}
			all = append(all, got)
		}
	}
	for i, got := range all {
		for j := range got {
			got[j] = byte(i)
		}
	}
	for i, got := range all {
		if !bytes.Equal(got, bytes.Repeat([]byte{byte(i)}, 16)) {
			t.Errorf("result %d: %x", i, got)
		}
	}
	if !bytes.Equal(b, kept) {
		t.Error("the block is modified")
	}
}

// TestExamples checks the table of the chapter.
func TestExamples(t *testing.T) {
	if a, b, c := aes.Substitute(0), aes.Substitute(0x53), aes.Inverse(0xED); a != 0x63 || b != 0xED || c != 0x53 {
		t.Errorf("%x, %x, %x", a, b, c)
	}
	c := newCipher(t, unhex(t, "00 01 02 03 04 05 06 07 08 09 0A 0B 0C 0D 0E 0F"))
	got, e := c.Encrypt(unhex(t, "00 11 22 33 44 55 66 77 88 99 AA BB CC DD EE FF"))
	if want := unhex(t, "69 C4 E0 D8 6A 7B 04 30 D8 CD B7 80 70 B4 C5 5A"); !bytes.Equal(got, want) || e != api.OK {
		t.Errorf("%x, error %d", got, e)
	}
	if none, e := aes.New(make([]byte, 15)); none != nil || e != api.ErrArg {
		t.Errorf("New of 15 bytes: %v, error %d", none, e)
	}
	if got, e := c.Encrypt(make([]byte, 17)); got != nil || e != api.ErrArg {
		t.Errorf("Encrypt of 17 bytes: %x, error %d", got, e)
	}
	if aes.BlockLen != 16 {
		t.Error(aes.BlockLen)
	}
}
