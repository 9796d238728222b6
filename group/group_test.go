package group_test

import (
	"math"
	"math/big"
	"math/rand/v2"
	"strings"
	"testing"

	"watchword/api"
	"watchword/group"
	"watchword/nat"
)

// longPrime is the prime of the group 4 as the chapter writes it.
const longPrime = "FFFFFFFF FFFFFFFF C90FDAA2 2168C234 C4C6628B 80DC1CD1 29024E08 8A67CC74 020BBEA6 3B139B22 514A0879 8E3404DD " +
	"EF9519B3 CD3A431B 302B0A6D F25F1437 4FE1356D 6D51C245 E485B576 625E7EC6 F44C42E9 A63A3620 FFFFFFFF FFFFFFFF"

// missing are numbers of groups that do not exist.
var missing = []int{0, -1, 5, 9, -4, math.MinInt, math.MaxInt}

// checked is a group with its numbers in the library, by which results are checked.
type checked struct {
	*testing.T
	id      int
	p, q, g *big.Int
	bytes   int
	rand    *rand.Rand
	cases   int // how many a test tries, fewer in the group with long numbers
}

// groups returns the groups of the chapter.
func groups(t *testing.T) []checked {
	t.Helper()
	long, ok := new(big.Int).SetString(strings.ReplaceAll(longPrime, " ", ""), 16)
	if !ok {
		t.Fatal(longPrime)
	}
	list := make([]checked, 4)
	for i, p := range []*big.Int{big.NewInt(2879), big.NewInt(71850239), big.NewInt(2444789759), long} {
		q := new(big.Int).Sub(p, big.NewInt(1))
		list[i] = checked{t, i + 1, p, q.Rsh(q, 1), big.NewInt(4), []int{2, 4, 4, 96}[i], rand.New(rand.NewPCG(uint64(i), 7)), []int{400, 400, 400, 12}[i]}
	}
	return list
}

// number returns the number of layer 1 that a number of the library is.
func (c checked) number(x *big.Int) nat.Nat {
	c.Helper()
	a, e := nat.Parse(x.Text(16))
	if e != api.OK {
		c.Fatalf("%x: error %d", x, e)
	}
	return a
}

// small returns the number of an int.
func small(v int64) *big.Int { return big.NewInt(v) }

// near returns a number plus an int.
func near(x *big.Int, d int64) *big.Int { return new(big.Int).Add(x, small(d)) }

// below returns any number less than a limit.
func (c checked) below(limit *big.Int) *big.Int {
	b := make([]byte, len(limit.Bytes())+8)
	for i := range b {
		b[i] = byte(c.rand.Uint32())
	}
	x := new(big.Int).SetBytes(b)
	return x.Mod(x, limit)
}

// scalar returns any scalar.
func (c checked) scalar() *big.Int { return c.below(c.q) }

// element returns any element: a square.
func (c checked) element() *big.Int {
	x := near(c.below(near(c.p, -1)), 1)
	return x.Exp(x, small(2), c.p)
}

// outsider returns a number from 1 to p - 1 that is no element. As p is 3 modulo 4, p - x is none where x is one.
func (c checked) outsider() *big.Int { return new(big.Int).Sub(c.p, c.element()) }

// scalars returns the edges among the scalars, and others.
func (c checked) scalars(n int) []*big.Int {
	list := []*big.Int{small(0), small(1), small(2), near(c.q, -1), near(c.q, -2)}
	for len(list) < n {
		list = append(list, c.scalar())
	}
	return list
}

// elements returns the edges among the elements, and others.
func (c checked) elements(n int) []*big.Int {
	greatest := near(c.p, -1)
	for big.Jacobi(greatest, c.p) != 1 {
		greatest = near(greatest, -1)
	}
	list := []*big.Int{small(1), small(4), small(16), greatest}
	for len(list) < n {
		list = append(list, c.element())
	}
	return list
}

// most returns the greatest number of layer 1.
func most() *big.Int { return near(new(big.Int).Lsh(small(1), nat.MaxBits), -1) }

// outsiders returns numbers that are no elements: 0, others below p, p itself and numbers above it, also those congruent to elements.
func (c checked) outsiders() []*big.Int {
	congruent := new(big.Int).Mod(near(most(), -1), c.p)
	congruent.Sub(most(), congruent) // to 1
	return []*big.Int{
		small(0), near(c.p, -1), near(c.p, -4), near(c.p, -16), c.outsider(), c.outsider(),
		c.p, near(c.p, 1), near(c.p, 4), new(big.Int).Add(c.p, c.element()), new(big.Int).Lsh(c.p, 1), congruent, most(),
	}
}

// overflows returns numbers that are no scalars.
func (c checked) overflows() []*big.Int {
	return []*big.Int{c.q, near(c.q, 1), near(c.p, -1), c.p, near(c.p, 1), most()}
}

// yields reports a result other than the wanted number without an error.
func (c checked) yields(what string, want *big.Int, got nat.Nat, e api.Errno) {
	c.Helper()
	if e != api.OK || got != c.number(want) {
		c.Errorf("group %d, %s: %s, error %d instead of %x", c.id, what, got.Text(), e, want)
	}
}

// fails reports a result other than an error with the number 0.
func (c checked) fails(what string, want api.Errno, got nat.Nat, e api.Errno) {
	c.Helper()
	if e != want || !got.IsZero() {
		c.Errorf("group %d, %s: %s, error %d instead of %d", c.id, what, got.Text(), e, want)
	}
}

// TestDefinition checks that the primes are safe primes and that the generator has the order of the group.
func TestDefinition(t *testing.T) {
	for _, c := range groups(t) {
		if !c.p.ProbablyPrime(10) || !c.q.ProbablyPrime(10) || near(new(big.Int).Lsh(c.q, 1), 1).Cmp(c.p) != 0 {
			t.Errorf("group %d: not a safe prime: %x", c.id, c.p)
		}
		if c.g.Cmp(small(1)) == 0 || new(big.Int).Exp(c.g, c.q, c.p).Cmp(small(1)) != 0 {
			t.Errorf("group %d: the generator has another order", c.id)
		}
		p, e := group.Prime(c.id)
		c.yields("Prime", c.p, p, e)
		q, e := group.Order(c.id)
		c.yields("Order", c.q, q, e)
		g, e := group.Generator(c.id)
		c.yields("Generator", c.g, g, e)
		if n := group.Len(c.id); n != c.bytes || n != len(p.Bytes()) {
			t.Errorf("group %d: Len is %d", c.id, n)
		}
	}
	if group.Groups != 4 {
		t.Error(group.Groups)
	}
}

func TestMissingGroups(t *testing.T) {
	for _, id := range missing {
		c := checked{T: t, id: id}
		for _, f := range []func(int) (nat.Nat, api.Errno){group.Prime, group.Order, group.Generator} {
			got, e := f(id)
			c.fails("Prime, Order or Generator", api.ErrArg, got, e)
		}
		if n := group.Len(id); n != 0 {
			t.Errorf("group %d: Len is %d", id, n)
		}
	}
}

// TestMissingGroupFirst checks that a group that does not exist is the first error, whatever the other arguments are.
func TestMissingGroupFirst(t *testing.T) {
	for _, id := range missing {
		c := checked{T: t, id: id}
		for _, v := range []*big.Int{small(0), small(1), small(4), small(2878), small(1439), most()} {
			a := c.number(v)
			if group.Member(id, a) {
				t.Errorf("group %d: member %x", id, v)
			}
			for _, f := range []func(int, nat.Nat) (nat.Nat, api.Errno){group.Power, group.Inverse} {
				got, e := f(id, a)
				c.fails("Power or Inverse", api.ErrArg, got, e)
			}
			for _, f := range []func(int, nat.Nat, nat.Nat) (nat.Nat, api.Errno){group.Exp, group.Mul, group.AddScalars, group.MulScalars} {
				got, e := f(id, a, a)
				c.fails("Exp, Mul, AddScalars or MulScalars", api.ErrArg, got, e)
			}
			for _, f := range []func(int, nat.Nat) ([]byte, api.Errno){group.Bytes, group.ScalarBytes} {
				if b, e := f(id, a); e != api.ErrArg || b != nil {
					t.Errorf("group %d: %x as bytes: %x, error %d", id, v, b, e)
				}
			}
		}
		for _, b := range [][]byte{nil, {}, {1}, {0, 1}, {0xff, 0xff}, {0, 0, 0, 1}, make([]byte, 96), make([]byte, 5000)} {
			for _, f := range []func(int, []byte) (nat.Nat, api.Errno){group.Scalar, group.Element, group.Number} {
				got, e := f(id, b)
				c.fails("Scalar, Element or Number", api.ErrArg, got, e)
			}
		}
	}
}

func TestEach(t *testing.T) {
	list := groups(t)
	iterator := group.Each()
	for _, limit := range []int{1, 2, 3, 4, 5, 1, 5} {
		n := 0
		for id, p := range iterator {
			if n == len(list) || id != n+1 {
				t.Fatalf("group %d after %d groups", id, n)
			}
			list[n].yields("Each", list[n].p, p, api.OK)
			if n++; n == limit {
				break
			}
		}
		if n != min(limit, len(list)) {
			t.Errorf("%d groups instead of %d", n, limit)
		}
	}
}

// TestEachNested uses an iterator within its own loop.
func TestEachNested(t *testing.T) {
	iterator := group.Each()
	sum := 0
	for i := range iterator {
		for j := range iterator {
			sum += 10*i + j
		}
	}
	if sum != 440 {
		t.Error(sum)
	}
}
