package derive_test

import (
	"bytes"
	"slices"
	"testing"

	"watchword/api"
	"watchword/derive"
)

// keyOf returns the key of a password, which must have n bytes.
func keyOf(t *testing.T, password, salt []byte, iterations, n int) []byte {
	t.Helper()
	b, e := derive.Password(password, salt, iterations, n)
	if len(b) != n || e != api.OK {
		t.Fatalf("%d and %d bytes, %d iterations, %d bytes of them: %d bytes, error %d", len(password), len(salt), iterations, n, len(b), e)
	}
	return b
}

// derived returns derived bytes, which must be n.
func derived(t *testing.T, key, label, context []byte, n int) []byte {
	t.Helper()
	b, e := derive.KDF(key, label, context, n)
	if len(b) != n || e != api.OK {
		t.Fatalf("%d, %d and %d bytes, %d bytes of them: %d bytes, error %d", len(key), len(label), len(context), n, len(b), e)
	}
	return b
}

// TestPrefixes compares keys of all numbers of bytes with the longest one.
func TestPrefixes(t *testing.T) {
	for _, length := range lengths {
		password, salt := random(length, 1), random(length/2, 2)
		for _, iterations := range []int{1, 2, 7} {
			whole := keyOf(t, password, salt, iterations, 1024)
			for n := 1; n <= 1024; n += 1 + n/100*3 {
				if got := keyOf(t, password, salt, iterations, n); !bytes.HasPrefix(whole, got) {
					t.Errorf("%d iterations, %d bytes: %x, but %x of 1024", iterations, n, got, whole[:n])
				}
			}
		}
	}
}

// TestNoPrefixes checks that derived bytes depend on how many they are.
func TestNoPrefixes(t *testing.T) {
	key, label, context := random(16, 1), random(5, 2), random(9, 3)
	whole := derived(t, key, label, context, 1024)
	for n := 16; n < 1024; n++ {
		more := derived(t, key, label, context, n+1)
		if got := derived(t, key, label, context, n); bytes.HasPrefix(more, got) || bytes.HasPrefix(whole, got) {
			t.Errorf("%d bytes are a prefix of more: %x", n, got)
		}
	}
}

// TestEqualArguments compares the results of strings with equal bytes in other memory, also after other calls.
func TestEqualArguments(t *testing.T) {
	for i := range 50 {
		args := [][]byte{random(i, 1), random(2*i, 2), random(3*i, 3)}
		key := derived(t, args[0], args[1], args[2], 16+i)
		secret := keyOf(t, args[0], args[1], 1+i%4, 16+i)
		for j := range args {
			args[j] = append(make([]byte, 0, 1000), args[j]...)
			args[j] = append(args[j], random(i, 4)...)[:len(args[j])]
		}
		if got := derived(t, args[0], args[1], args[2], 16+i); !bytes.Equal(got, key) {
			t.Errorf("%x, then %x", key, got)
		}
		if got := keyOf(t, args[0], args[1], 1+i%4, 16+i); !bytes.Equal(got, secret) {
			t.Errorf("%x, then %x", secret, got)
		}
	}
}

// TestOneMemory takes the same memory for all arguments.
func TestOneMemory(t *testing.T) {
	memory := random(40, 1)
	kept := bytes.Clone(memory)
	for range 2 {
		if got, want := derived(t, memory, memory, memory, 70), definedKDF(kept, kept, kept, 70); !bytes.Equal(got, want) {
			t.Errorf("KDF: %x instead of %x", got, want)
		}
		if got, want := keyOf(t, memory, memory, 3, 70), definedPassword(kept, kept, 3, 70); !bytes.Equal(got, want) {
			t.Errorf("Password: %x instead of %x", got, want)
		}
		checkList(t, "Blocks", collected(t, derive.Blocks(memory, memory, memory, 70)), definedBlocks(kept, kept, kept, 70))
	}
	if !bytes.Equal(memory, kept) {
		t.Errorf("%x has become %x", kept, memory)
	}
}

// TestOtherArguments changes each bit of the arguments, and their number of bytes and of iterations.
func TestOtherArguments(t *testing.T) {
	memory := random(24, 1)
	var list [][]byte
	add := func(n, iterations int) {
		list = append(list, derived(t, memory[:8], memory[8:16], memory[16:], n)[:16], keyOf(t, memory[:8], memory[8:], iterations, 16))
	}
	add(16, 1)
	for i := range memory {
		for bit := range 8 {
			memory[i] ^= 1 << bit
			add(16, 1)
			memory[i] ^= 1 << bit
		}
	}
	for i := 2; i < 50; i++ {
		add(16+i, i)
	}
	slices.SortFunc(list, bytes.Compare)
	if n := len(slices.CompactFunc(list, bytes.Equal)); n != 2*(1+8*24+48) {
		t.Errorf("only %d different results", n)
	}
}
