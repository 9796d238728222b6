package sha_test

import (
	"bytes"
	"encoding/binary"
	"iter"
	"slices"
	"testing"

	"watchword/sha"
)

// pad returns the padded string of a string by its definition.
func pad(b []byte) []byte {
	padded := append(bytes.Clone(b), 0x80)
	for (len(padded)+8)%blockSize != 0 {
		padded = append(padded, 0)
	}
	return binary.BigEndian.AppendUint64(padded, 8*uint64(len(b)))
}

// checkBlocks checks that an iterator yields the blocks of a string, up to a number of blocks at which the loop is left.
func checkBlocks(t *testing.T, what string, b []byte, blocks iter.Seq[[]byte], limit int) {
	t.Helper()
	want := slices.Collect(slices.Chunk(pad(b), blockSize))
	i := 0
	for block := range blocks {
		if i >= len(want) {
			t.Fatalf("%s, %d bytes: more than %d blocks", what, len(b), i)
		}
		if !bytes.Equal(block, want[i]) {
			t.Errorf("%s, %d bytes: block %d is %x instead of %x", what, len(b), i, block, want[i])
		}
		if i++; i == limit {
			break
		}
	}
	if i != min(limit, len(want)) {
		t.Errorf("%s, %d bytes: %d blocks instead of %d", what, len(b), i, min(limit, len(want)))
	}
}

func TestBlocks(t *testing.T) {
	for n := range most + 1 {
		for _, b := range samples(n) {
			checkBlocks(t, "all blocks", b, sha.Blocks(b), 100)
		}
	}
	checkBlocks(t, "nil", nil, sha.Blocks(nil), 100)
	for _, n := range longLengths {
		b := random(n)
		checkBlocks(t, "long", b, sha.Blocks(b), n)
	}
}

// TestPadding checks the blocks at the edges by their bytes.
func TestPadding(t *testing.T) {
	zeros := func(n int) []byte { return make([]byte, n) }
	for n, want := range map[int][][]byte{
		0:  {{0x80}, zeros(63)},
		1:  {{0xaa, 0x80}, zeros(61), {8}},
		55: {bytes.Repeat([]byte{0xaa}, 55), {0x80}, zeros(6), {1, 0xb8}},
		56: {bytes.Repeat([]byte{0xaa}, 56), {0x80}, zeros(7), zeros(62), {1, 0xc0}},
		63: {bytes.Repeat([]byte{0xaa}, 63), {0x80}, zeros(62), {1, 0xf8}},
		64: {bytes.Repeat([]byte{0xaa}, 64), {0x80}, zeros(61), {2, 0}},
	} {
		got := slices.Concat(slices.Collect(sha.Blocks(bytes.Repeat([]byte{0xaa}, n)))...)
		if !bytes.Equal(got, slices.Concat(want...)) {
			t.Errorf("%d bytes: %x", n, got)
		}
	}
}

// TestLongLength takes a string whose number of bits has more than 32 bits.
func TestLongLength(t *testing.T) {
	if testing.Short() {
		t.Skip("needs a gigabyte of memory")
	}
	t.Parallel()
	const n = 1<<29 + 3
	var last []byte
	for block := range sha.Blocks(make([]byte, n)) {
		last = block
	}
	want := append([]byte{0, 0, 0, 0x80}, make([]byte, 60)...)
	binary.BigEndian.PutUint64(want[56:], 8*n)
	if !bytes.Equal(last, want) {
		t.Errorf("%x instead of %x", last, want)
	}
}

// TestBlocksAgain leaves loops over one iterator at every block.
func TestBlocksAgain(t *testing.T) {
	for n := range most + 1 {
		b := random(n)
		blocks := sha.Blocks(b)
		for limit := 1; limit <= 5; limit++ {
			checkBlocks(t, "left early", b, blocks, limit)
			checkBlocks(t, "again", b, blocks, 100)
		}
	}
}

// TestBlocksNested uses an iterator within its own loop.
func TestBlocksNested(t *testing.T) {
	for _, n := range []int{0, 55, 56, 64, 130, 200} {
		b := random(n)
		blocks := sha.Blocks(b)
		outer := func(yield func([]byte) bool) {
			for block := range blocks {
				checkBlocks(t, "inner loop", b, blocks, 2)
				checkBlocks(t, "inner loop", b, blocks, 100)
				if !yield(block) {
					return
				}
			}
		}
		checkBlocks(t, "outer loop", b, outer, 100)
	}
}

// TestBlocksStringChanged changes the string after the call, before the loop and within it.
func TestBlocksStringChanged(t *testing.T) {
	for n := range most + 1 {
		b := random(n)
		kept := bytes.Clone(b)
		before, within := sha.Blocks(b), sha.Blocks(b)
		changing := func(yield func([]byte) bool) {
			for block := range within {
				clear(b)
				if !yield(block) {
					return
				}
			}
		}
		checkBlocks(t, "changed within the loop", kept, changing, 100)
		checkBlocks(t, "changed before the loop", kept, before, 100)
		checkBlocks(t, "changed in another loop", kept, within, 100)
	}
}

// TestBlocksWritten writes to yielded blocks, and behind them.
func TestBlocksWritten(t *testing.T) {
	for n := range most + 1 {
		memory := random(n + 100)
		b, kept := memory[:n], bytes.Clone(memory)
		blocks := sha.Blocks(b)
		spoiling := func(yield func([]byte) bool) {
			for block := range blocks {
				more := yield(block)
				for i := range block {
					block[i] ^= 0xff
				}
				_ = append(block, bytes.Repeat([]byte{0xee}, 70)...)
				if !more {
					return
				}
			}
		}
		checkBlocks(t, "written in the loop", kept[:n], spoiling, 100)
		checkBlocks(t, "written in the loop before", kept[:n], blocks, 100)
		checkBlocks(t, "another iterator", kept[:n], sha.Blocks(b), 100)
		if !bytes.Equal(memory, kept) {
			t.Errorf("%d bytes: modified", n)
		}
	}
}

// TestBlocksMemory checks that no two blocks share memory, of one loop or of two.
func TestBlocksMemory(t *testing.T) {
	b := random(most)
	blocks := sha.Blocks(b)
	first, second := slices.Collect(blocks), slices.Collect(blocks)
	all := slices.Concat(first, second)
	for i, block := range all {
		for j := range block {
			block[j] = byte(i)
		}
	}
	for i, block := range all {
		if !bytes.Equal(block, bytes.Repeat([]byte{byte(i)}, blockSize)) {
			t.Errorf("block %d: %x", i, block)
		}
	}
}
