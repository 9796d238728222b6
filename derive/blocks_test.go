package derive_test

import (
	"bytes"
	"slices"
	"testing"

	"watchword/derive"
)

// collected returns the blocks that an iterator yields, and checks their numbers.
func collected(t *testing.T, blocks func(func(int, []byte) bool)) [][]byte {
	t.Helper()
	var list [][]byte
	for i, b := range blocks {
		list = append(list, b)
		if i != len(list) {
			t.Errorf("the number %d instead of %d", i, len(list))
		}
	}
	return list
}

// checkList compares lists of blocks.
func checkList(t *testing.T, what string, got, want [][]byte) {
	t.Helper()
	if !slices.EqualFunc(got, want, bytes.Equal) {
		t.Errorf("%s: %x instead of %x", what, got, want)
	}
}

func TestBlocks(t *testing.T) {
	for _, i := range lengths {
		for _, n := range []int{1, 2, 31, 32, 33, 63, 64, 65, 96, 97, 991, 992, 993, 1023, 1024} {
			key, label, context := random(i, n), random(i, n+1), random(4096-i, n+2)
			blocks := derive.Blocks(key, label, context, n)
			want := definedBlocks(key, label, context, n)
			for range 2 {
				checkList(t, "blocks", collected(t, blocks), want)
			}
			if len(want) != (n+31)/32 {
				t.Errorf("%d bytes: %d blocks", n, len(want))
			}
		}
	}
	for n := 1; n <= 1024; n++ {
		checkList(t, "blocks of nil", collected(t, derive.Blocks(nil, nil, nil, n)), definedBlocks(nil, nil, nil, n))
	}
}

// TestBlocksOfKDF compares the blocks with derived bytes, of which the last block may have more.
func TestBlocksOfKDF(t *testing.T) {
	key, label, context := random(16, 1), random(5, 2), random(9, 3)
	for n := 1; n <= 1024; n++ {
		got, _ := derive.KDF(key, label, context, n)
		whole := slices.Concat(collected(t, derive.Blocks(key, label, context, n))...)
		if len(whole) < n || len(whole)-n >= 32 || !bytes.Equal(whole[:n], got) {
			t.Errorf("%d bytes: %x, but blocks %x", n, got, whole)
		}
	}
}

// TestBlocksLeft leaves the loop after each number of blocks, and uses the iterator again.
func TestBlocksLeft(t *testing.T) {
	key, label := random(16, 1), random(5, 2)
	want := definedBlocks(key, label, nil, 1000)
	blocks := derive.Blocks(key, label, nil, 1000)
	for n := 1; n <= len(want); n++ {
		var list [][]byte
		for _, b := range blocks {
			list = append(list, b)
			if len(list) == n {
				break
			}
		}
		checkList(t, "up to a block", list, want[:n])
		checkList(t, "again", collected(t, blocks), want)
	}
}

// TestBlocksKept changes the arguments before and between uses of the iterator.
func TestBlocksKept(t *testing.T) {
	for _, n := range lengths {
		key, label, context := random(n, 1), random(n, 2), random(n, 3)
		want := definedBlocks(key, label, context, 100)
		blocks := derive.Blocks(key, label, context, 100)
		for range 2 {
			for _, arg := range [][]byte{key, label, context} {
				for i := range arg {
					arg[i] ^= 0x55
				}
				checkList(t, "with other arguments", collected(t, blocks), want)
			}
		}
		list := [][]byte{}
		for _, b := range blocks {
			clear(key)
			clear(label)
			clear(context)
			list = append(list, b)
		}
		checkList(t, "with arguments that change in the loop", list, want)
	}
}

// TestBlocksWritten writes to the blocks and behind them.
func TestBlocksWritten(t *testing.T) {
	want := definedBlocks([]byte("key"), []byte("label"), []byte("context"), 300)
	blocks := derive.Blocks([]byte("key"), []byte("label"), []byte("context"), 300)
	for range 2 {
		var before [][]byte
		for i, b := range blocks {
			if !bytes.Equal(b, want[i-1]) {
				t.Errorf("block %d: %x instead of %x", i, b, want[i-1])
			}
			for j := range b {
				b[j] = byte(i)
			}
			_ = append(b, b...)
			before = append(before, b)
		}
		for i, b := range before {
			if !bytes.Equal(b, bytes.Repeat([]byte{byte(i + 1)}, 32)) {
				t.Errorf("block %d has become %x", i+1, b)
			}
		}
	}
}

// TestBlocksNested uses an iterator while it is in use.
func TestBlocksNested(t *testing.T) {
	want := definedBlocks([]byte("key"), nil, []byte("context"), 128)
	blocks := derive.Blocks([]byte("key"), nil, []byte("context"), 128)
	for i, b := range blocks {
		for j, c := range blocks {
			if !bytes.Equal(c, want[j-1]) || j > i {
				break
			}
		}
		checkList(t, "inside", collected(t, blocks), want)
		if !bytes.Equal(b, want[i-1]) {
			t.Errorf("block %d: %x", i, b)
		}
	}
}

// TestBlocksNothing takes arguments that are not allowed.
func TestBlocksNothing(t *testing.T) {
	check := func(key, label, context []byte, n int) {
		t.Helper()
		blocks := derive.Blocks(key, label, context, n)
		if blocks == nil {
			t.Fatalf("no iterator for %d, %d and %d bytes, %d bytes of them", len(key), len(label), len(context), n)
		}
		for range 2 {
			for i, b := range blocks {
				t.Errorf("%d, %d and %d bytes, %d bytes of them: %d %x", len(key), len(label), len(context), n, i, b)
			}
		}
	}
	right := random(16, 0)
	for _, n := range wrongOutputs {
		check(right, right, right, n)
		check(nil, nil, nil, n)
		check(make([]byte, 4097), nil, nil, n)
	}
	for _, length := range longLengths {
		wrong := make([]byte, length)
		for _, n := range []int{1, 32, 1024} {
			check(wrong, right, right, n)
			check(right, wrong, right, n)
			check(right, right, wrong, n)
			check(wrong, wrong, wrong, n)
		}
	}
}
