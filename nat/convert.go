package nat

import "watchword/api"

const (
	maxInt      = 1 << 62
	numerals    = "0123456789abcdef"
	byteBits    = 8
	numeralBits = 4 // bits of a hexadecimal digit
)

// FromBytes returns the number with given bytes, of which leading ones may be 0.
func FromBytes(b []byte) (Nat, api.Errno) {
	for len(b) > 0 && b[0] == 0 {
		b = b[1:]
	}
	if len(b) > MaxBits/byteBits {
		return Nat{}, api.ErrFull
	}
	var a Nat
	for i, x := range b {
		a.place((len(b)-1-i)*byteBits, x)
	}
	return a, api.OK
}

// FromInt returns the number of an int.
func FromInt(v int) (Nat, api.Errno) {
	if v < 0 {
		return Nat{}, api.ErrArg
	}
	return Nat{digits{uint64(v)}}, api.OK
}

// Parse returns the number with a string.
func Parse(s string) (Nat, api.Errno) {
	if !isText(s) {
		return Nat{}, api.ErrFormat
	}
	if len(s) > MaxBits/numeralBits {
		return Nat{}, api.ErrFull
	}
	var a Nat
	for i := range len(s) {
		a.place((len(s)-1-i)*numeralBits, numeralValue(s[i]))
	}
	return a, api.OK
}

// isText reports whether a string is that of a number, however long.
func isText(s string) bool {
	if s == "" || s[0] == '0' && s != "0" {
		return false
	}
	for i := range len(s) {
		if !isNumeral(s[i]) {
			return false
		}
	}
	return true
}

func isNumeral(c byte) bool { return c >= '0' && c <= '9' || c >= 'a' && c <= 'f' }

// numeralValue returns the value of a hexadecimal digit.
func numeralValue(c byte) byte {
	if c <= '9' {
		return c - '0'
	}
	return c - 'a' + 10
}

// Bytes returns the bytes of a number, without leading zeros.
func (a Nat) Bytes() []byte {
	n := (a.BitLen() + byteBits - 1) / byteBits
	b := make([]byte, n)
	for i := range b {
		b[i] = a.group((n-1-i)*byteBits, 0xff)
	}
	return b
}

// Int returns the int of a number.
func (a Nat) Int() (int, api.Errno) {
	if a.Compare(Nat{digits{maxInt}}) > 0 {
		return 0, api.ErrRange
	}
	return int(a.digits[0]), api.OK
}

// Text returns the string of a number.
func (a Nat) Text() string {
	n := max(1, (a.BitLen()+numeralBits-1)/numeralBits)
	s := make([]byte, n)
	for i := range s {
		s[i] = numerals[a.group((n-1-i)*numeralBits, 0xf)]
	}
	return string(s)
}
