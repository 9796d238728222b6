package sha_test

import (
	"bytes"
	"crypto/sha256"
	"encoding/hex"
	"math/rand/v2"
	"strings"
	"testing"

	"watchword/api"
	"watchword/sha"
)

const blockSize = 64

// most is the greatest length of the strings of which the tests try every length.
const most = 200

// longLengths are lengths of strings of many blocks, with the edges of the padding among them.
var longLengths = []int{
	201, 255, 256, 257, 447, 448, 503, 504, 511, 512, 513, 1000, 4095, 4096, 4097,
	1<<16 - 9, 1<<16 - 8, 1<<16 - 1, 1 << 16, 1<<16 + 1, 1 << 20, 1<<21 - 9, 1<<21 + 55, 1<<21 + 56,
}

// random returns a string of any bytes, the same one in every run.
func random(n int) []byte {
	r := rand.New(rand.NewPCG(uint64(n), 4))
	b := make([]byte, n)
	for i := range b {
		b[i] = byte(r.Uint32())
	}
	return b
}

// samples returns strings of a length: of bytes 0, of bytes FF, of bytes 80 (as the padding has one), and of any bytes.
func samples(n int) [][]byte {
	list := [][]byte{random(n)}
	for _, b := range []byte{0, 0xff, 0x80} {
		list = append(list, bytes.Repeat([]byte{b}, n))
	}
	return list
}

// checkSum compares the hash of a string with that of the library.
func checkSum(t *testing.T, b []byte) {
	t.Helper()
	// What lies behind the string in memory is not part of it.
	whole := append(bytes.Clone(b), random(200)...)
	copied := bytes.Clone(whole)
	if got, want := sha.Sum(whole[:len(b)]), sha256.Sum256(b); got != want {
		t.Errorf("%d bytes %.40x: %x instead of %x", len(b), b, got, want)
	}
	if !bytes.Equal(whole, copied) {
		t.Errorf("%d bytes %.40x: modified", len(b), b)
	}
}

func TestSum(t *testing.T) {
	for n := range most + 1 {
		for _, b := range samples(n) {
			checkSum(t, b)
		}
	}
	checkSum(t, nil)
	for _, n := range longLengths {
		checkSum(t, random(n))
	}
}

// TestSumBits hashes strings that differ in one bit, in each place of several blocks.
func TestSumBits(t *testing.T) {
	for _, n := range []int{1, 55, 56, 64, 130} {
		seen := map[[32]byte]int{sha.Sum(make([]byte, n)): -1}
		for i := range 8 * n {
			b := make([]byte, n)
			b[i/8] = 0x80 >> (i % 8)
			checkSum(t, b)
			sum := sha.Sum(b)
			if j, found := seen[sum]; found {
				t.Errorf("%d bytes: the bits %d and %d have the same hash", n, i, j)
			}
			seen[sum] = i
		}
	}
}

// TestSumKnown checks hashes that are published, so that not all depends on the library.
func TestSumKnown(t *testing.T) {
	for text, want := range map[string]string{
		"":    "e3b0c44298fc1c149afbf4c8996fb92427ae41e4649b934ca495991b7852b855",
		"abc": "ba7816bf8f01cfea414140de5dae2223b00361a396177a9cb410ff61f20015ad",
		"abcdbcdecdefdefgefghfghighijhijkijkljklmklmnlmnomnopnopq":                                                         "248d6a61d20638b8e5c026930c3e6039a33ce45964ff2167f6ecedd419db06c1",
		"abcdefghbcdefghicdefghijdefghijkefghijklfghijklmghijklmnhijklmnoijklmnopjklmnopqklmnopqrlmnopqrsmnopqrstnopqrstu": "cf5b16a778af8380036ce59e7b0492370b249b11e8f07a51afac45037afee9d1",
		strings.Repeat("a", 1000000): "cdc76e5c9914fb9281a1c7e284d73e67f1809a48a497200e046d39ccc7112cd0",
	} {
		if got := sha.Sum([]byte(text)); hex.EncodeToString(got[:]) != want {
			t.Errorf("%.20q: %x instead of %s", text, got, want)
		}
	}
}

// count returns the number of blocks of a string.
func count(b []byte) int {
	n := 0
	for range sha.Blocks(b) {
		n++
	}
	return n
}

// TestExamples checks the table of the chapter.
func TestExamples(t *testing.T) {
	for text, want := range map[string]string{
		"":    "E3 B0 C4 42 98 FC 1C 14 9A FB F4 C8 99 6F B9 24 27 AE 41 E4 64 9B 93 4C A4 95 99 1B 78 52 B8 55",
		"abc": "BA 78 16 BF 8F 01 CF EA 41 41 40 DE 5D AE 22 23 B0 03 61 A3 96 17 7A 9C B4 10 FF 61 F2 00 15 AD",
	} {
		sum := sha.Sum([]byte(text))
		if got := strings.ToUpper(hex.EncodeToString(sum[:])); got != strings.ReplaceAll(want, " ", "") {
			t.Errorf("%q: %s", text, got)
		}
	}
	for n, want := range map[int]int{55: 1, 56: 2, 0: 1} {
		if got := count(make([]byte, n)); got != want {
			t.Errorf("%d bytes: %d blocks", n, got)
		}
	}
	if sha.Size != 32 {
		t.Error(sha.Size)
	}
}

// write writes a string to a hash in progress, in pieces of the given lengths in turn.
func write(t *testing.T, h *sha.Hash, b []byte, lengths ...int) {
	t.Helper()
	for i := 0; len(b) > 0; i++ {
		n := min(lengths[i%len(lengths)], len(b))
		if e := h.Write(b[:n]); e != api.OK {
			t.Fatalf("Write: error %d", e)
		}
		b = b[n:]
	}
}

// checkHash checks that a hash in progress has exactly the given bytes, and that asking for it changes nothing.
func checkHash(t *testing.T, h *sha.Hash, b []byte) {
	t.Helper()
	want := sha256.Sum256(b)
	for range 2 {
		if got := h.Sum(); got != want {
			t.Errorf("%d bytes: hash %x instead of %x", len(b), got, want)
		}
		if n := h.Len(); n != len(b) {
			t.Errorf("%d bytes: Len is %d", len(b), n)
		}
	}
}
