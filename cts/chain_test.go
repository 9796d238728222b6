package cts_test

import (
	"bytes"
	"iter"
	"slices"
	"testing"

	"watchword/cts"
)

// wrongKeys are neither keys nor IVs.
var wrongKeys = [][]byte{nil, {}, make([]byte, 1), make([]byte, 15), make([]byte, 17), make([]byte, 24), make([]byte, 32)}

// source yields blocks, and counts how often it is ranged over and how many blocks it was asked for.
type source struct {
	blocks        [][]byte
	begun, passed int
}

// all returns the iterator over the blocks. It yields them all in the same memory, as far as they have 16 bytes.
func (s *source) all() iter.Seq[[]byte] {
	return func(yield func([]byte) bool) {
		s.begun++
		var memory [16]byte
		for _, b := range s.blocks {
			s.passed++
			if len(b) == 16 {
				copy(memory[:], b)
				b = memory[:]
			}
			if !yield(b) {
				return
			}
		}
	}
}

// checkBlocks compares lists of blocks.
func checkBlocks(t *testing.T, what string, got, want [][]byte) {
	t.Helper()
	if !slices.EqualFunc(got, want, bytes.Equal) {
		t.Errorf("%s: %x instead of %x", what, got, want)
	}
}

func TestChain(t *testing.T) {
	for _, n := range []int{0, 1, 2, 3, 4, 5, 15, 16, 17, 100, 10000} {
		key, iv := random(16, n), random(16, n+1)
		blocks := split(random(16*n, 0))
		want := definedChain(key, iv, blocks)
		checkBlocks(t, "values", slices.Collect(cts.Chain(key, iv, slices.Values(blocks))), want)
		checkBlocks(t, "the same memory", slices.Collect(cts.Chain(key, iv, (&source{blocks: blocks}).all())), want)
		checkBlocks(t, "the blocks", blocks, split(random(16*n, 0)))
	}
	for i := range 300 {
		key, iv := random(16, 2*i), random(16, 2*i+1)
		blocks := split(random(16*(i%20), i))
		checkBlocks(t, "values", slices.Collect(cts.Chain(key, iv, slices.Values(blocks))), definedChain(key, iv, blocks))
	}
}

// TestChainOtherLengths puts a block with another length at each place.
func TestChainOtherLengths(t *testing.T) {
	key, iv := random(16, 1), random(16, 2)
	for _, n := range []int{0, 1, 8, 15, 17, 31, 32, 4096} {
		for i := range 6 {
			s := &source{blocks: split(random(16*5, 3))}
			want := definedChain(key, iv, s.blocks[:i])
			s.blocks = slices.Insert(s.blocks, i, random(n, 4))
			chained := cts.Chain(key, iv, s.all())
			for range 2 {
				checkBlocks(t, "up to another length", slices.Collect(chained), want)
			}
			if s.passed != 2*(i+1) {
				t.Errorf("%d bytes at %d: asked for %d blocks", n, i, s.passed)
			}
			s.blocks = slices.Insert(s.blocks, i, nil, random(15, 5))
			checkBlocks(t, "up to nil", slices.Collect(chained), want)
		}
	}
}

// TestChainNothing takes wrong keys and IVs, and nil in the place of the blocks.
func TestChainNothing(t *testing.T) {
	right := random(16, 0)
	check := func(key, iv []byte, blocks iter.Seq[[]byte]) {
		t.Helper()
		chained := cts.Chain(key, iv, blocks)
		if chained == nil {
			t.Fatalf("no iterator for %d and %d bytes", len(key), len(iv))
		}
		for range 2 {
			for b := range chained {
				t.Errorf("a key of %d bytes, an IV of %d: %x", len(key), len(iv), b)
			}
		}
	}
	blocks := slices.Values(split(random(48, 0)))
	check(right, right, nil)
	for _, wrong := range wrongKeys {
		check(wrong, right, blocks)
		check(right, wrong, blocks)
		check(wrong, wrong, blocks)
		check(wrong, right, nil)
		check(right, wrong, nil)
	}
}

// TestChainLeft leaves the loop after each number of blocks, and uses the iterator again.
func TestChainLeft(t *testing.T) {
	key, iv := random(16, 1), random(16, 2)
	s := &source{blocks: split(random(16*8, 3))}
	want := definedChain(key, iv, s.blocks)
	chained := cts.Chain(key, iv, s.all())
	for n := 1; n <= len(want); n++ {
		s.begun, s.passed = 0, 0
		var got [][]byte
		for b := range chained {
			got = append(got, b)
			if len(got) == n {
				break
			}
		}
		checkBlocks(t, "left early", got, want[:n])
		if s.begun != 1 || s.passed != n {
			t.Errorf("left after %d blocks: ranged over the blocks %d times, asked for %d", n, s.begun, s.passed)
		}
		checkBlocks(t, "again", slices.Collect(chained), want)
	}
}

// TestChainAnew gives other blocks each time when they are ranged over.
func TestChainAnew(t *testing.T) {
	key, iv := random(16, 1), random(16, 2)
	s := &source{}
	chained := cts.Chain(key, iv, s.all())
	if s.begun != 0 {
		t.Error("the blocks are ranged over too early")
	}
	for i, n := range []int{3, 0, 5, 1, 5} {
		s.blocks = split(random(16*n, i))
		checkBlocks(t, "anew", slices.Collect(chained), definedChain(key, iv, s.blocks))
		if s.begun != i+1 {
			t.Errorf("the blocks are ranged over %d times instead of %d", s.begun, i+1)
		}
	}
}

// TestChainWritten writes to the blocks that are yielded, and behind them.
func TestChainWritten(t *testing.T) {
	key, iv := random(16, 1), random(16, 2)
	blocks := split(random(16*8, 3))
	want := definedChain(key, iv, blocks)
	chained := cts.Chain(key, iv, slices.Values(blocks))
	for range 2 {
		var got, kept [][]byte
		for b := range chained {
			kept = append(kept, bytes.Clone(b))
			got = append(got, b)
			for i := range b {
				b[i] ^= byte(0xa5 + len(got))
			}
			_ = append(b, random(40, 4)...)
		}
		checkBlocks(t, "before it is written to", kept, want)
		for i, b := range got {
			for j := range b {
				b[j] ^= byte(0xa5 + i + 1)
			}
		}
		checkBlocks(t, "after all", got, want)
	}
	checkBlocks(t, "the blocks", blocks, split(random(16*8, 3)))
}

// TestChainSourceWritten writes to the blocks of the source during the loop, as the loop's body and as the source.
func TestChainSourceWritten(t *testing.T) {
	key, iv := random(16, 1), random(16, 2)
	want := definedChain(key, iv, split(random(16*8, 3)))
	blocks := split(random(16*8, 3))
	var got [][]byte
	for b := range cts.Chain(key, iv, slices.Values(blocks)) {
		clear(blocks[len(got)])
		got = append(got, b)
	}
	checkBlocks(t, "written by the body", got, want)
	erased := func(yield func([]byte) bool) {
		for _, b := range split(random(16*8, 3)) {
			more := yield(b)
			clear(b)
			if !more {
				return
			}
		}
	}
	checkBlocks(t, "written by the source", slices.Collect(cts.Chain(key, iv, erased)), want)
}

// TestChainNested uses an iterator in its own loop, and two in turns.
func TestChainNested(t *testing.T) {
	key, iv := random(16, 1), random(16, 2)
	blocks := split(random(16*5, 3))
	want := definedChain(key, iv, blocks)
	chained := cts.Chain(key, iv, slices.Values(blocks))
	var got [][]byte
	for b := range chained {
		checkBlocks(t, "inner loop", slices.Collect(chained), want)
		got = append(got, b)
	}
	checkBlocks(t, "outer loop", got, want)
	next, stop := iter.Pull(chained)
	defer stop()
	i := 0
	for b := range chained {
		other, ok := next()
		if !ok || !bytes.Equal(b, want[i]) || !bytes.Equal(other, want[i]) {
			t.Errorf("block %d in turns: %x and %x instead of %x", i, b, other, want[i])
		}
		i++
	}
}

// TestChainOfChain chains chained blocks.
func TestChainOfChain(t *testing.T) {
	key, iv := random(16, 1), random(16, 2)
	blocks := split(random(16*5, 3))
	twice := cts.Chain(iv, key, cts.Chain(key, iv, slices.Values(blocks)))
	checkBlocks(t, "twice", slices.Collect(twice), definedChain(iv, key, definedChain(key, iv, blocks)))
}

// TestChainArguments changes the key and the IV after the call.
func TestChainArguments(t *testing.T) {
	key, iv := random(16, 1), random(16, 2)
	blocks := split(random(16*5, 3))
	want := definedChain(key, iv, blocks)
	chained := cts.Chain(key, iv, slices.Values(blocks))
	checkBlocks(t, "before", slices.Collect(chained), want)
	if !bytes.Equal(key, random(16, 1)) || !bytes.Equal(iv, random(16, 2)) {
		t.Error("the key or the IV is modified")
	}
	clear(key)
	clear(iv)
	checkBlocks(t, "after", slices.Collect(chained), want)
}

// TestChainEndless takes blocks without an end.
func TestChainEndless(t *testing.T) {
	key, iv, block := random(16, 1), random(16, 2), random(16, 3)
	endless := func(yield func([]byte) bool) {
		for yield(block) {
		}
	}
	var got [][]byte
	for b := range cts.Chain(key, iv, endless) {
		if got = append(got, b); len(got) == 50 {
			break
		}
	}
	checkBlocks(t, "endless", got, definedChain(key, iv, slices.Repeat([][]byte{block}, 50)))
}

// TestChainPanics checks that a panic of the blocks reaches the caller.
func TestChainPanics(t *testing.T) {
	defer func() {
		if got := recover(); got != "no more blocks" {
			t.Errorf("recovered %v", got)
		}
	}()
	for range cts.Chain(random(16, 1), random(16, 2), func(yield func([]byte) bool) {
		yield(random(16, 3))
		panic("no more blocks")
	}) {
	}
	t.Error("no panic")
}
