package cts_test

import (
	"bytes"
	"encoding/hex"
	"slices"
	"strings"
	"testing"

	"watchword/api"
	"watchword/cts"
)

// function is Encrypt or Decrypt.
type function func(key, iv, text []byte) ([]byte, api.Errno)

// functions are both, by name.
var functions = map[string]function{"Encrypt": cts.Encrypt, "Decrypt": cts.Decrypt}

// unhex returns the bytes of hexadecimal digits, which spaces may divide.
func unhex(t *testing.T, digits string) []byte {
	t.Helper()
	b, err := hex.DecodeString(strings.ReplaceAll(digits, " ", ""))
	if err != nil {
		t.Fatal(err)
	}
	return b
}

// checkCall checks what a function returns for arguments that lie in the middle of memory, that it changes none of this, and that its results are new memory.
func checkCall(t *testing.T, name string, key, iv, text, want []byte) {
	t.Helper()
	memory := slices.Concat(random(9, 1), key, iv, text, random(100, 2))
	kept := bytes.Clone(memory)
	m := memory[9:]
	for range 2 {
		got, e := functions[name](m[:16], m[16:32], m[32:32+len(text)])
		if !bytes.Equal(got, want) || e != api.OK {
			t.Fatalf("%s with %x, %x of %d bytes: %x, error %d instead of %x", name, key, iv, len(text), got, e, want)
		}
		for i := range got {
			got[i] ^= 0xff
		}
		_ = append(got, random(40, 3)...)
	}
	if !bytes.Equal(memory, kept) {
		t.Fatalf("%s with %x, %x of %d bytes: modified", name, key, iv, len(text))
	}
}

// checkText checks the ciphertext of a string, and the string whose ciphertext it is.
func checkText(t *testing.T, key, iv, text []byte) {
	t.Helper()
	encrypted := definedEncrypt(key, iv, text)
	checkCall(t, "Encrypt", key, iv, text, encrypted)
	checkCall(t, "Decrypt", key, iv, encrypted, text)
	plain, e := cts.Decrypt(key, iv, text)
	if len(plain) != len(text) || e != api.OK {
		t.Fatalf("Decrypt of %d bytes: %d bytes, error %d", len(text), len(plain), e)
	}
	if got := definedEncrypt(key, iv, plain); !bytes.Equal(got, text) {
		t.Fatalf("Decrypt of %x: %x, which gives %x", text, plain, got)
	}
	checkCall(t, "Decrypt", key, iv, text, plain)
}

func TestLengths(t *testing.T) {
	for n := 16; n <= 300; n++ {
		checkText(t, random(16, n), random(16, n+1000), random(n, 0))
		checkText(t, random(16, n), make([]byte, 16), make([]byte, n))
		checkText(t, make([]byte, 16), bytes.Repeat([]byte{0xff}, 16), bytes.Repeat([]byte{0xff}, n))
	}
	for _, n := range []int{1 << 10, 4095, 4096, 4097, 65535, 65536, 65537, 131055, 131056, 131057, 131071, 131072} {
		checkText(t, random(16, n), random(16, n+1), random(n, 0))
	}
}

// TestOneKey encrypts many strings with one key and one IV.
func TestOneKey(t *testing.T) {
	key, iv := random(16, 1), random(16, 2)
	for i := range 500 {
		checkText(t, key, iv, random(16+i%64, i))
	}
}

// TestBits changes each bit of the key, of the IV and of the string.
func TestBits(t *testing.T) {
	for _, n := range []int{16, 17, 31, 32, 33, 48, 53} {
		memory := random(32+n, 0)
		for i := range memory {
			for bit := range 8 {
				memory[i] ^= 1 << bit
				checkText(t, memory[:16], memory[16:32], memory[32:])
				memory[i] ^= 1 << bit
			}
		}
	}
}

// TestPublished checks the vectors of RFC 3962, whose IV is zero.
func TestPublished(t *testing.T) {
	const text = "I would like the General Gau's Chicken, please, and wonton soup."
	for _, encrypted := range []string{
		"c6353568f2bf8cb4d8a580362da7ff7f97",
		"fc00783e0efdb2c1d445d4c8eff7ed2297687268d6ecccc0c07b25e25ecfe5",
		"39312523a78662d5be7fcbcc98ebf5a897687268d6ecccc0c07b25e25ecfe584",
		"97687268d6ecccc0c07b25e25ecfe584b3fffd940c16a18c1b5549d2f838029e39312523a78662d5be7fcbcc98ebf5",
		"97687268d6ecccc0c07b25e25ecfe5849dad8bbb96c4cdc03bc103e1a194bbd839312523a78662d5be7fcbcc98ebf5a8",
		"97687268d6ecccc0c07b25e25ecfe58439312523a78662d5be7fcbcc98ebf5a84807efe836ee89a526730dbc2f7bc8409dad8bbb96c4cdc03bc103e1a194bbd8",
	} {
		want := unhex(t, encrypted)
		checkCall(t, "Encrypt", []byte("chicken teriyaki"), make([]byte, 16), []byte(text[:len(want)]), want)
		checkCall(t, "Decrypt", []byte("chicken teriyaki"), make([]byte, 16), want, []byte(text[:len(want)]))
	}
}

// wantedError returns the first error that applies to arguments of these lengths.
func wantedError(key, iv, text int) api.Errno {
	switch {
	case key != 16 || iv != 16:
		return api.ErrArg
	case text < 16:
		return api.ErrShort
	case text > 131072:
		return api.ErrLong
	}
	return api.OK
}

func TestErrors(t *testing.T) {
	some := [][]byte{nil, {}, random(1, 0), random(15, 0), random(16, 0), random(17, 0), random(24, 0), random(32, 0)}
	texts := append(some, random(131072, 0), random(131073, 0), random(131088, 0), random(1<<20, 0))
	for name, call := range functions {
		for _, key := range some {
			for _, iv := range some {
				for _, text := range texts {
					got, e := call(key, iv, text)
					want := wantedError(len(key), len(iv), len(text))
					if e != want || e != api.OK && got != nil || e == api.OK && len(got) != len(text) {
						t.Errorf("%s of %d, %d, %d bytes: %d bytes, error %d instead of %d", name, len(key), len(iv), len(text), len(got), e, want)
					}
				}
			}
		}
	}
}

// TestShared takes the same memory for all arguments.
func TestShared(t *testing.T) {
	memory := random(16, 5)
	encrypted := definedEncrypt(memory, memory, memory)
	for range 2 {
		got, e := cts.Encrypt(memory, memory, memory)
		if !bytes.Equal(got, encrypted) || e != api.OK {
			t.Errorf("Encrypt: %x, error %d instead of %x", got, e, encrypted)
		}
		clear(got)
		got, e = cts.Decrypt(memory, memory, encrypted)
		if !bytes.Equal(got, memory) || e != api.OK {
			t.Errorf("Decrypt: %x, error %d instead of %x", got, e, memory)
		}
		clear(got)
	}
}

// TestExamples checks the table of the chapter.
func TestExamples(t *testing.T) {
	key, iv := []byte("chicken teriyaki"), make([]byte, 16)
	got, e := cts.Encrypt(key, iv, []byte("I would like the "))
	if want := unhex(t, "C6 35 35 68 F2 BF 8C B4 D8 A5 80 36 2D A7 FF 7F 97"); !bytes.Equal(got, want) || e != api.OK {
		t.Errorf("%x, error %d", got, e)
	}
	if got, e := cts.Encrypt(key, iv, make([]byte, 15)); got != nil || e != api.ErrShort {
		t.Errorf("Encrypt of 15 bytes: %x, error %d", got, e)
	}
	if got, e := cts.Encrypt(key, iv[:15], make([]byte, 17)); got != nil || e != api.ErrArg {
		t.Errorf("Encrypt with an IV of 15 bytes: %x, error %d", got, e)
	}
	if cts.MaxText != 131072 {
		t.Error(cts.MaxText)
	}
}
