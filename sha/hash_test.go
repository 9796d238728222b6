package sha_test

import (
	"bytes"
	"crypto/sha256"
	"math/rand/v2"
	"testing"

	"watchword/api"
	"watchword/sha"
)

// edges are lengths of pieces: empty ones, and those that end just before, at and behind the end of a block.
var edges = []int{0, 1, 2, 7, 31, 32, 33, 54, 55, 56, 57, 62, 63, 64, 65, 66, 119, 120, 127, 128, 129, 191, 192, 193, 300}

func TestZeroHash(t *testing.T) {
	var h sha.Hash
	checkHash(t, &h, nil)
	checkHash(t, new(sha.Hash), nil)
	checkHash(t, h.Copy(), nil)
	for _, empty := range [][]byte{nil, {}} {
		if e := h.Write(empty); e != api.OK {
			t.Errorf("error %d", e)
		}
		checkHash(t, &h, nil)
	}
}

func TestNilHash(t *testing.T) {
	var h *sha.Hash
	for _, b := range [][]byte{nil, {}, {1}, make([]byte, 64), make([]byte, 1000)} {
		if e := h.Write(b); e != api.ErrNil {
			t.Errorf("Write of %d bytes: error %d", len(b), e)
		}
		checkHash(t, h, nil)
		if c := h.Copy(); c != nil {
			t.Errorf("Copy: %v", c)
		}
	}
}

// TestWriteEdges writes three pieces of all combinations of lengths.
func TestWriteEdges(t *testing.T) {
	b := random(3 * 300)
	for _, first := range edges {
		for _, second := range edges {
			for _, third := range edges {
				h, n := new(sha.Hash), 0
				for _, piece := range []int{first, second, third} {
					if e := h.Write(b[n : n+piece]); e != api.OK {
						t.Fatalf("error %d", e)
					}
					n += piece
					checkHash(t, h, b[:n])
				}
			}
		}
	}
}

// TestWritePieces writes pieces of one length, also an empty one behind each.
func TestWritePieces(t *testing.T) {
	b := random(700)
	for length := 1; length <= most; length++ {
		h, n := new(sha.Hash), 0
		for n < len(b) {
			next := min(n+length, len(b))
			for _, piece := range [][]byte{b[n:next], nil} {
				if e := h.Write(piece); e != api.OK {
					t.Fatalf("error %d", e)
				}
				checkHash(t, h, b[:next])
			}
			n = next
		}
	}
}

// TestWriteOnce asks for the hash only at the end.
func TestWriteOnce(t *testing.T) {
	for _, n := range append(longLengths, edges...) {
		b := random(n)
		for _, lengths := range [][]int{{n}, {1}, {63}, {64}, {65}, {1, 64, 127}, {1000}, {0, 3, 0, 4097}} {
			if n > 1<<16 && lengths[0] == 1 {
				continue
			}
			h := new(sha.Hash)
			write(t, h, b, append(lengths, 1)...)
			checkHash(t, h, b)
		}
	}
}

// TestWriteLong writes a string whose number of bits has more than 32 bits.
func TestWriteLong(t *testing.T) {
	if testing.Short() {
		t.Skip("takes seconds")
	}
	t.Parallel()
	const pieces, length = 513, 1 << 20
	h, want, piece := new(sha.Hash), sha256.New(), random(length)
	for range pieces {
		write(t, h, piece, length)
		want.Write(piece)
	}
	if got := h.Sum(); !bytes.Equal(got[:], want.Sum(nil)) || h.Len() != pieces*length {
		t.Errorf("%x instead of %x, Len is %d", got, want.Sum(nil), h.Len())
	}
}

// TestWriteKeepsNothing changes what was written afterwards, and checks that Write and Sum change none of it.
func TestWriteKeepsNothing(t *testing.T) {
	for _, n := range edges {
		for _, before := range edges {
			all := random(before + n)
			h := new(sha.Hash)
			write(t, h, all[:before], 50)
			memory := append(bytes.Clone(all[before:]), random(100)...)
			copied := bytes.Clone(memory)
			if e := h.Write(memory[:n]); e != api.OK {
				t.Fatalf("error %d", e)
			}
			checkHash(t, h, all)
			if !bytes.Equal(memory, copied) {
				t.Errorf("%d bytes behind %d: modified", n, before)
			}
			clear(memory)
			checkHash(t, h, all)
			more := random(70)
			write(t, h, more, 70)
			checkHash(t, h, append(all, more...))
		}
	}
}

// TestCopy writes to a copy, to the hash of which it is one, and to a copy of the copy.
func TestCopy(t *testing.T) {
	for n := range most + 1 {
		b := random(n)
		for _, length := range []int{1, 9, 63, 64, 65, 130} {
			h := new(sha.Hash)
			write(t, h, b, 40)
			c := h.Copy()
			d := c.Copy()
			one, two, three := random(length), bytes.Repeat([]byte{1}, length+1), bytes.Repeat([]byte{2}, length+2)
			write(t, c, one, length)
			checkHash(t, h, b)
			checkHash(t, d, b)
			write(t, h, two, length)
			checkHash(t, c, append(bytes.Clone(b), one...))
			checkHash(t, d, b)
			write(t, d, three, length)
			checkHash(t, h, append(bytes.Clone(b), two...))
			checkHash(t, c, append(bytes.Clone(b), one...))
			checkHash(t, d, append(bytes.Clone(b), three...))
		}
	}
}

// TestManyHashes writes to many hashes in progress in any order, some of which are copies of others.
func TestManyHashes(t *testing.T) {
	r := rand.New(rand.NewPCG(4, 2))
	hashes, written := []*sha.Hash{{}}, [][]byte{nil}
	for range 3000 {
		i := r.IntN(len(hashes))
		if r.IntN(10) == 0 && len(hashes) < 30 {
			hashes, written = append(hashes, hashes[i].Copy()), append(written, bytes.Clone(written[i]))
		}
		piece := random(edges[r.IntN(len(edges))])
		if e := hashes[i].Write(piece); e != api.OK {
			t.Fatalf("error %d", e)
		}
		written[i] = append(written[i], piece...)
		checkHash(t, hashes[i], written[i])
	}
	for i, h := range hashes {
		checkHash(t, h, written[i])
	}
}
