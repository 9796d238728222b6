package nat

const (
	width = 64              // bits of a digit
	size  = MaxBits / width // digits of a number
)

// digits are the digits of a number to the base 2^width, the least significant one first.
type digits [size]uint64

// length returns the number of digits without leading zeros.
func (d digits) length() int {
	n := size
	for n > 0 && d[n-1] == 0 {
		n--
	}
	return n
}

// has reports whether the bit i is 1. There must be such a bit.
func (d digits) has(i int) bool { return d[i/width]>>(i%width)&1 == 1 }

// set makes the bit i 1. There must be such a bit.
func (d *digits) set(i int) { d[i/width] |= 1 << (i % width) }

// place adds a value to the digits so that its last bit is the bit i.
// The bits there must be 0, and the value may not cross the end of a digit.
func (d *digits) place(i int, value byte) { d[i/width] |= uint64(value) << (i % width) }

// group returns the bits from i on that are in the mask, which may not cross the end of a digit.
func (d digits) group(i int, mask byte) byte { return byte(d[i/width]>>(i%width)) & mask }

// combine replaces each digit of x by what f makes of it and of the digit of y at the same place.
// f is called from the least significant digit on, so that it can keep a carry.
func combine(x, y []uint64, f func(x, y uint64) uint64) {
	for i := range x {
		x[i] = f(x[i], y[i])
	}
}
