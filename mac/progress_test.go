package mac_test

import (
	"bytes"
	"math/rand/v2"
	"slices"
	"testing"

	"watchword/api"
	"watchword/mac"
)

// begin returns a keyed hash in progress.
func begin(t *testing.T, key []byte) *mac.Mac {
	t.Helper()
	m, e := mac.New(key)
	if m == nil || e != api.OK {
		t.Fatalf("New with a key of %d bytes: %v, error %d", len(key), m, e)
	}
	return m
}

// write writes pieces to a keyed hash in progress.
func write(t *testing.T, m *mac.Mac, pieces ...[]byte) {
	t.Helper()
	for _, piece := range pieces {
		if e := m.Write(piece); e != api.OK {
			t.Fatalf("Write of %d bytes: error %d", len(piece), e)
		}
	}
}

// checkMac checks that a keyed hash in progress has exactly the given key and bytes, and that asking for it changes nothing.
func checkMac(t *testing.T, m *mac.Mac, key, b []byte) {
	t.Helper()
	want := wanted(key, b)
	for range 2 {
		if got, e := m.Sum(); got != want || e != api.OK {
			t.Errorf("a key of %d bytes, %d bytes: %x, error %d instead of %x", len(key), len(b), got, e, want)
		}
	}
}

func TestNew(t *testing.T) {
	for _, n := range keyLengths {
		for _, key := range keysOf(n) {
			checkUnchanged(t, key, nil, func(given []byte, _ ...[]byte) {
				m := begin(t, given)
				checkMac(t, m, key, nil)
				write(t, m, nil, []byte{})
				checkMac(t, m, key, nil)
				write(t, m, []byte("text"))
				checkMac(t, m, key, []byte("text"))
			})
		}
	}
	checkMac(t, begin(t, nil), nil, nil)
	for _, n := range longKeys {
		if m, e := mac.New(random(n)); m != nil || e != api.ErrArg {
			t.Errorf("a key of %d bytes: %v, error %d", n, m, e)
		}
	}
}

// TestWritePieces writes pieces of one length, with empty ones between them.
func TestWritePieces(t *testing.T) {
	b := random(300)
	for _, n := range keyLengths {
		key := random(n)
		for _, length := range []int{1, 2, 7, 55, 56, 63, 64, 65, 128, 300} {
			m, written := begin(t, key), 0
			for piece := range slices.Chunk(b, length) {
				for _, next := range [][]byte{piece, nil, {}} {
					write(t, m, next)
					written += len(next)
					checkMac(t, m, key, b[:written])
				}
			}
			silent := begin(t, key)
			write(t, silent, slices.Collect(slices.Chunk(b, length))...)
			checkMac(t, silent, key, b)
		}
	}
}

// TestKeepsNothing changes the key and the bytes after they were taken.
func TestKeepsNothing(t *testing.T) {
	for _, n := range keyLengths {
		for _, length := range []int{1, 63, 64, 65, 200} {
			key, b := random(n), random(length)
			givenKey, given := bytes.Clone(key), slices.Concat(b, random(100))
			m := begin(t, givenKey)
			clear(givenKey)
			checkMac(t, m, key, nil)
			write(t, m, given[:length])
			if !bytes.Equal(given, slices.Concat(b, random(100))) {
				t.Errorf("%d bytes: modified", length)
			}
			clear(given)
			checkMac(t, m, key, b)
			write(t, m, b)
			checkMac(t, m, key, append(bytes.Clone(b), b...))
		}
	}
}

// TestCopy writes to a copy, to that of which it is one, and to a copy of the copy.
func TestCopy(t *testing.T) {
	for _, n := range keyLengths {
		key := random(n)
		for _, before := range []int{0, 1, 63, 64, 65, 150} {
			b := random(before)
			m := begin(t, key)
			write(t, m, b)
			c := m.Copy()
			d := c.Copy()
			if c == m || d == c || d == m {
				t.Fatal("a copy is the same")
			}
			checkMac(t, c, key, b)
			one, two, three := random(10), random(64), random(130)
			write(t, c, one)
			checkMac(t, m, key, b)
			checkMac(t, d, key, b)
			write(t, m, two)
			checkMac(t, c, key, append(bytes.Clone(b), one...))
			checkMac(t, d, key, b)
			write(t, d, three)
			checkMac(t, m, key, append(bytes.Clone(b), two...))
			checkMac(t, c, key, append(bytes.Clone(b), one...))
			checkMac(t, d, key, append(bytes.Clone(b), three...))
		}
	}
}

// TestNilAndZero calls the methods of a nil and of a zero Mac.
func TestNilAndZero(t *testing.T) {
	var zero mac.Mac
	for _, m := range []*mac.Mac{nil, &zero, new(mac.Mac)} {
		for range 2 {
			for _, b := range [][]byte{nil, {}, {1}, random(64), random(1000)} {
				if e := m.Write(b); e != api.ErrNil {
					t.Errorf("Write of %d bytes: error %d", len(b), e)
				}
			}
			if got, e := m.Sum(); got != [32]byte{} || e != api.ErrNil {
				t.Errorf("Sum: %x, error %d", got, e)
			}
			if c := m.Copy(); c != nil {
				t.Errorf("Copy: %v", c)
			}
		}
	}
	if zero != (mac.Mac{}) {
		t.Error("the zero Mac is modified")
	}
}

// TestManyMacs writes to many keyed hashes in progress in any order, some of which are copies of others.
func TestManyMacs(t *testing.T) {
	r := rand.New(rand.NewPCG(5, 2))
	type progress struct {
		m      *mac.Mac
		key, b []byte
	}
	var list []progress
	for _, n := range keyLengths {
		list = append(list, progress{begin(t, random(n)), random(n), nil})
	}
	for range 3000 {
		i := r.IntN(len(list))
		if p := list[i]; r.IntN(10) == 0 && len(list) < 50 {
			list = append(list, progress{p.m.Copy(), p.key, bytes.Clone(p.b)})
		}
		piece := random(r.IntN(150))
		write(t, list[i].m, piece)
		list[i].b = append(list[i].b, piece...)
		checkMac(t, list[i].m, list[i].key, list[i].b)
	}
	for _, p := range list {
		checkMac(t, p.m, p.key, p.b)
	}
}
