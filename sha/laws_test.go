package sha_test

import (
	"bytes"
	"slices"
	"testing"

	"watchword/api"
	"watchword/sha"
)

// TestDivision divides strings at every place, and the second part once more.
func TestDivision(t *testing.T) {
	for n := range most + 1 {
		b := random(n)
		want := sha.Sum(b)
		for i := range n + 1 {
			for _, j := range []int{i, (i + n) / 2, n} {
				h := new(sha.Hash)
				for _, piece := range [][]byte{b[:i], b[i:j], b[j:]} {
					if e := h.Write(piece); e != api.OK {
						t.Fatalf("error %d", e)
					}
				}
				if got := h.Sum(); got != want {
					t.Errorf("%d bytes divided at %d and %d: %x instead of %x", n, i, j, got, want)
				}
			}
		}
	}
}

// TestDivisionLong divides long strings, and asks for the hash in between.
func TestDivisionLong(t *testing.T) {
	for _, n := range longLengths {
		b := random(n)
		for _, i := range []int{0, 1, 63, 64, 65, n / 2, n - 64, n - 1, n} {
			h := new(sha.Hash)
			write(t, h, b[:i], n)
			if got := h.Sum(); got != sha.Sum(b[:i]) {
				t.Errorf("the first %d bytes of %d: %x", i, n, got)
			}
			write(t, h, b[i:], n)
			if got := h.Sum(); got != sha.Sum(b) {
				t.Errorf("%d bytes divided at %d: %x", n, i, got)
			}
		}
	}
}

// TestBlocksBegin checks that the blocks begin with the string, that they are whole, and that at most one has none of it.
func TestBlocksBegin(t *testing.T) {
	for n := range most + 1 {
		for _, b := range samples(n) {
			blocks := slices.Collect(sha.Blocks(b))
			for i, block := range blocks {
				if len(block) != blockSize {
					t.Errorf("%d bytes: block %d has %d bytes", n, i, len(block))
				}
			}
			if !bytes.HasPrefix(slices.Concat(blocks...), b) || len(blocks) != (n+8)/blockSize+1 {
				t.Errorf("%d bytes %.40x: %d blocks %.80x", n, b, len(blocks), slices.Concat(blocks...))
			}
		}
	}
}
