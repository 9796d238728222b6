package mac_test

import (
	"bytes"
	"crypto/hmac"
	"crypto/sha256"
	"encoding/hex"
	"math/rand/v2"
	"slices"
	"strings"
	"testing"

	"watchword/api"
	"watchword/mac"
)

const blockSize = 64

// keyLengths are lengths of keys, with the edges of the key block and the greatest one among them.
var keyLengths = []int{0, 1, 2, 20, 31, 32, 33, 62, 63, 64, 65, 66, 127, 128, 129, 1000, 4095, 4096}

// longKeys are lengths of keys that are too long.
var longKeys = []int{4097, 4098, 8192, 1 << 17}

// wrongLengths are numbers of bytes to which a keyed hash may not be cut.
var wrongLengths = []int{-1 << 63, -1 << 32, -33, -32, -2, -1, 0, 33, 34, 64, 255, 256, 257, 1 << 32, 1<<32 + 1, 1<<63 - 1}

// random returns a string of any bytes, the same one in every run.
func random(n int) []byte {
	r := rand.New(rand.NewPCG(uint64(n), 5))
	b := make([]byte, n)
	for i := range b {
		b[i] = byte(r.Uint32())
	}
	return b
}

// keysOf returns keys of a length: of bytes 0, of bytes FF, of the bytes that make a block of bytes 0, and of any bytes.
func keysOf(n int) [][]byte {
	list := [][]byte{random(n)}
	for _, b := range []byte{0, 0xff, 0x36, 0x5c} {
		list = append(list, bytes.Repeat([]byte{b}, n))
	}
	return list
}

// wanted returns the keyed hash by the library.
func wanted(key, b []byte) [32]byte {
	h := hmac.New(sha256.New, key)
	h.Write(b)
	return [32]byte(h.Sum(nil))
}

// defined returns the keyed hash by its definition.
func defined(key, b []byte) [32]byte {
	if len(key) > blockSize {
		sum := sha256.Sum256(key)
		key = sum[:]
	}
	block := func(mask byte) []byte {
		padded := append(bytes.Clone(key), make([]byte, blockSize-len(key))...)
		for i := range padded {
			padded[i] ^= mask
		}
		return padded
	}
	inner := sha256.Sum256(append(block(0x36), b...))
	return sha256.Sum256(append(block(0x5c), inner[:]...))
}

// partLists returns lists of parts: none, empty ones, one, and several, with lengths at the edges of blocks.
func partLists() [][][]byte {
	b := random(700)
	return [][][]byte{
		nil, {}, {nil}, {{}}, {nil, {}, nil},
		{b[:1]}, {b[:55]}, {b[:56]}, {b[:63]}, {b[:64]}, {b[:65]}, {b[:700]},
		{b[:3], b[3:10]}, {b[:64], b[64:128]}, {b[:63], b[63:64], b[64:65]},
		{nil, b[:5], {}, b[5:70], nil}, {b[:200], nil}, {nil, b[:200]},
		{b[:100], b[:100], b[50:150]}, slices.Collect(slices.Chunk(b, 1)), slices.Collect(slices.Chunk(b, 7)),
	}
}

// checkUnchanged calls a function with a key and parts that lie in the middle of memory, and checks that none of it is changed.
func checkUnchanged(t *testing.T, key []byte, parts [][]byte, call func(key []byte, parts ...[]byte)) {
	t.Helper()
	surrounded := func(b []byte) []byte { return slices.Concat(random(9), b, random(100)) }
	memory := surrounded(key)
	memories := [][]byte{memory}
	given := make([][]byte, len(parts))
	for i, part := range parts {
		m := surrounded(part)
		given[i] = m[9 : 9+len(part)]
		memories = append(memories, m)
	}
	kept := make([][]byte, len(memories))
	for i, m := range memories {
		kept[i] = bytes.Clone(m)
	}
	list := slices.Clone(given)
	call(memory[9:9+len(key)], list...)
	for i, m := range memories {
		if !bytes.Equal(m, kept[i]) {
			t.Errorf("a key of %d bytes, %d parts: argument %d is modified", len(key), len(parts), i)
		}
	}
	for i, part := range list {
		if len(part) != len(given[i]) || len(part) > 0 && &part[0] != &given[i][0] {
			t.Errorf("a key of %d bytes, %d parts: part %d is replaced", len(key), len(parts), i)
		}
	}
}

func TestHMAC(t *testing.T) {
	for _, n := range keyLengths {
		for _, key := range keysOf(n) {
			for _, parts := range partLists() {
				b := slices.Concat(parts...)
				checkUnchanged(t, key, parts, func(key []byte, parts ...[]byte) {
					got, e := mac.HMAC(key, parts...)
					if want := wanted(key, b); got != want || e != api.OK {
						t.Errorf("a key of %d bytes, %d parts with %d bytes: %x, error %d instead of %x", n, len(parts), len(b), got, e, want)
					}
				})
				if wanted(key, b) != defined(key, b) {
					t.Fatalf("the test is wrong for a key of %d bytes and %d bytes", n, len(b))
				}
			}
		}
	}
	if got, e := mac.HMAC(nil); got != wanted(nil, nil) || e != api.OK {
		t.Errorf("nil: %x, error %d", got, e)
	}
}

// TestHMACLengths takes strings and keys of every length up to some blocks.
func TestHMACLengths(t *testing.T) {
	for n := range 200 {
		for _, key := range [][]byte{random(n), random(200 - n)} {
			if got, e := mac.HMAC(key, random(n)); got != wanted(key, random(n)) || e != api.OK {
				t.Errorf("a key of %d bytes, %d bytes: %x, error %d", len(key), n, got, e)
			}
		}
	}
	for _, n := range []int{4095, 4096, 4097, 1 << 16, 1<<20 + 1} {
		if got, e := mac.HMAC(random(20), random(n)); got != wanted(random(20), random(n)) || e != api.OK {
			t.Errorf("%d bytes: %x, error %d", n, got, e)
		}
	}
}

// TestHMACBits takes keys and strings that differ in one bit.
func TestHMACBits(t *testing.T) {
	seen := map[[32]byte]bool{}
	for _, n := range []int{1, 64, 65, 130} {
		for i := range 8 * n {
			b := make([]byte, n)
			b[i/8] = 0x80 >> (i % 8)
			for _, call := range [][2][]byte{{b, random(n)}, {random(n), b}} {
				got, e := mac.HMAC(call[0], call[1])
				if got != wanted(call[0], call[1]) || e != api.OK {
					t.Errorf("%d bytes, bit %d: %x, error %d", n, i, got, e)
				}
				if seen[got] {
					t.Errorf("%d bytes, bit %d: %x again", n, i, got)
				}
				seen[got] = true
			}
		}
	}
}

func TestHMACLongKey(t *testing.T) {
	for _, n := range longKeys {
		for _, parts := range partLists() {
			checkUnchanged(t, random(n), parts, func(key []byte, parts ...[]byte) {
				if got, e := mac.HMAC(key, parts...); got != [32]byte{} || e != api.ErrArg {
					t.Errorf("a key of %d bytes: %x, error %d", n, got, e)
				}
			})
		}
	}
}

func TestTruncated(t *testing.T) {
	for _, length := range keyLengths {
		key := random(length)
		for _, parts := range partLists() {
			whole := wanted(key, slices.Concat(parts...))
			for n := 1; n <= 32; n++ {
				checkUnchanged(t, key, parts, func(key []byte, parts ...[]byte) {
					got, e := mac.Truncated(n, key, parts...)
					if !bytes.Equal(got, whole[:n]) || e != api.OK {
						t.Errorf("%d bytes with a key of %d bytes: %x, error %d instead of %x", n, length, got, e, whole[:n])
					}
				})
			}
		}
	}
}

func TestTruncatedWrong(t *testing.T) {
	refused := func(n int, key []byte, parts ...[]byte) {
		if got, e := mac.Truncated(n, key, parts...); got != nil || e != api.ErrArg {
			t.Errorf("%d bytes with a key of %d bytes: %x, error %d", n, len(key), got, e)
		}
	}
	for _, n := range wrongLengths {
		for _, length := range append(keyLengths, longKeys...) {
			refused(n, random(length), random(10))
			refused(n, random(length))
		}
	}
	for n := -1000; n < 1000; n++ {
		if n < 1 || n > 32 {
			refused(n, []byte("key"), random(10))
		}
		refused(n, random(4097), random(10))
	}
}

// TestTruncatedMemory writes to results, and behind them.
func TestTruncatedMemory(t *testing.T) {
	for n := 1; n <= 32; n++ {
		key, part := random(40), random(70)
		want := wanted(key, part)
		first, _ := mac.Truncated(n, key, part)
		second, _ := mac.Truncated(n, key, part)
		_ = append(first, random(100)...)
		for i := range first {
			first[i] ^= 0xff
		}
		if third, _ := mac.Truncated(n, key, part); !bytes.Equal(second, want[:n]) || !bytes.Equal(third, want[:n]) {
			t.Errorf("%d bytes: %x and %x instead of %x", n, second, third, want[:n])
		}
	}
}

// TestKnown checks the keyed hashes of RFC 4231, so that not all depends on the library.
func TestKnown(t *testing.T) {
	repeated := func(b byte, n int) string { return strings.Repeat(string([]byte{b}), n) }
	counted := ""
	for i := range 25 {
		counted += string([]byte{byte(i + 1)})
	}
	for _, known := range []struct{ key, text, want string }{
		{repeated(0x0b, 20), "Hi There", "b0344c61d8db38535ca8afceaf0bf12b881dc200c9833da726e9376c2e32cff7"},
		{"Jefe", "what do ya want for nothing?", "5bdcc146bf60754e6a042426089575c75a003f089d2739839dec58b964ec3843"},
		{repeated(0xaa, 20), repeated(0xdd, 50), "773ea91e36800e46854db8ebd09181a72959098b3ef8c122d9635514ced565fe"},
		{counted, repeated(0xcd, 50), "82558a389a443c0ea4cc819899f2083a85f0faa3e578f8077a2e3ff46729665b"},
		{repeated(0x0c, 20), "Test With Truncation", "a3b6167473100ee06e0c796c2955552b"},
		{repeated(0xaa, 131), "Test Using Larger Than Block-Size Key - Hash Key First", "60e431591ee0b67f0d8a26aacbf5b77f8e0bc6213728c5140546040f0ee37f54"},
		{repeated(0xaa, 131), "This is a test using a larger than block-size key and a larger than block-size data. The key needs to be hashed before being used by the HMAC algorithm.", "9b09ffa71b942fcb27635fbcd5b0e944bfdc63644f0713938a7f51535c3a35e2"},
	} {
		want, err := hex.DecodeString(known.want)
		if err != nil {
			t.Fatal(err)
		}
		if got, e := mac.Truncated(len(want), []byte(known.key), []byte(known.text)); !bytes.Equal(got, want) || e != api.OK {
			t.Errorf("%.20q: %x, error %d instead of %x", known.text, got, e, want)
		}
		if e := mac.Check([]byte(known.key), want, []byte(known.text)); e != api.OK {
			t.Errorf("%.20q: error %d", known.text, e)
		}
	}
}

// TestExamples checks the table of the chapter.
func TestExamples(t *testing.T) {
	key, text := []byte("Jefe"), []byte("what do ya want for nothing?")
	sum, e := mac.HMAC(key, []byte("what do ya want "), []byte("for nothing?"))
	want := "5B DC C1 46 BF 60 75 4E 6A 04 24 26 08 95 75 C7 5A 00 3F 08 9D 27 39 83 9D EC 58 B9 64 EC 38 43"
	if got := strings.ToUpper(hex.EncodeToString(sum[:])); got != strings.ReplaceAll(want, " ", "") || e != api.OK {
		t.Errorf("HMAC: %s, error %d", got, e)
	}
	if got, e := mac.Truncated(4, key, text); !bytes.Equal(got, []byte{0x5b, 0xdc, 0xc1, 0x46}) || e != api.OK {
		t.Errorf("Truncated to 4: %x, error %d", got, e)
	}
	if got, e := mac.Truncated(33, key, text); got != nil || e != api.ErrArg {
		t.Errorf("Truncated to 33: %x, error %d", got, e)
	}
	for _, row := range []struct {
		sum  []byte
		want api.Errno
	}{{[]byte{0x5b, 0xdc}, api.OK}, {[]byte{0x5b, 0xdd}, api.ErrCheck}, {nil, api.ErrCheck}, {[]byte{}, api.ErrCheck}} {
		if e := mac.Check(key, row.sum, text); e != row.want {
			t.Errorf("Check of %x: error %d", row.sum, e)
		}
	}
	if mac.Size != 32 || mac.MaxKey != 4096 {
		t.Error(mac.Size, mac.MaxKey)
	}
}
