package derive_test

import (
	"bytes"
	"crypto/pbkdf2"
	"crypto/sha256"
	"math"
	"testing"

	"watchword/api"
	"watchword/derive"
)

// wrongIterations are numbers of iterations that are not allowed.
var wrongIterations = []int{math.MinInt, -1 << 32, -65536, -2, -1, 0, 65537, 65538, 1 << 17, 1 << 32, 1<<32 + 1, math.MaxInt}

// checkPassword compares Password with a key that is wanted.
func checkPassword(t *testing.T, password, salt []byte, iterations, n int, want []byte) {
	t.Helper()
	checkCall(t, [][]byte{password, salt}, want, func(args [][]byte) ([]byte, api.Errno) {
		return derive.Password(args[0], args[1], iterations, n)
	})
}

// fromLibrary returns the key of a password by the library.
func fromLibrary(t *testing.T, password, salt []byte, iterations, n int) []byte {
	t.Helper()
	b, err := pbkdf2.Key(sha256.New, string(password), salt, iterations, n)
	if err != nil {
		t.Fatal(err)
	}
	return b
}

func TestPasswordOutputs(t *testing.T) {
	outputs := []int{1023, 1024}
	for n := range 100 {
		outputs = append(outputs, n+1)
	}
	for _, n := range outputs {
		for _, iterations := range []int{1, 2, 3} {
			password, salt := random(9, n), random(8, n+iterations)
			checkPassword(t, password, salt, iterations, n, definedPassword(password, salt, iterations, n))
			checkPassword(t, nil, nil, iterations, n, definedPassword(nil, nil, iterations, n))
		}
		password, salt := []byte("password"), random(16, n)
		checkPassword(t, password, salt, 1000, n, fromLibrary(t, password, salt, 1000, n))
	}
}

func TestPasswordLengths(t *testing.T) {
	for _, i := range append([]int{2, 16, 128}, lengths...) {
		for _, j := range append([]int{2, 16, 128}, lengths...) {
			for _, iterations := range []int{1, 2, 3, 4, 10} {
				password, salt := random(i, j), random(j, i)
				checkPassword(t, password, salt, iterations, 40, definedPassword(password, salt, iterations, 40))
			}
		}
	}
}

// TestPasswordIterations takes numbers of iterations up to the greatest one, for more than one block.
func TestPasswordIterations(t *testing.T) {
	password, salt := []byte("a long password"), []byte("u@R")
	for iterations := 1; iterations <= 60; iterations++ {
		checkPassword(t, password, salt, iterations, 33, definedPassword(password, salt, iterations, 33))
	}
	for _, iterations := range []int{255, 256, 257, 4096} {
		checkPassword(t, password, salt, iterations, 70, fromLibrary(t, password, salt, iterations, 70))
	}
	for iterations := 65535; iterations <= 65536; iterations++ {
		checkPassword(t, password, salt, iterations, 33, fromLibrary(t, password, salt, iterations, 33))
	}
}

// TestPasswordNil takes nil and empty strings.
func TestPasswordNil(t *testing.T) {
	for _, password := range [][]byte{nil, {}, {0}} {
		for _, salt := range [][]byte{nil, {}, {0}} {
			got, e := derive.Password(password, salt, 2, 50)
			if want := definedPassword(password, salt, 2, 50); !bytes.Equal(got, want) || e != api.OK {
				t.Errorf("%v and %v: %x, error %d instead of %x", password, salt, got, e, want)
			}
		}
	}
}

// TestPasswordPublished checks vectors of RFC 7914, and those of RFC 6070 with SHA-256.
func TestPasswordPublished(t *testing.T) {
	for _, row := range []struct {
		password, salt string
		iterations     int
		want           string
	}{
		{"passwd", "salt", 1, "55ac046e56e3089fec1691c22544b605f94185216dde0465e68b9d57c20dacbc"},
		{"password", "salt", 4096, "c5e478d59288c841aa530db6845c4c8d962893a001ce4e11a4963873aa98134a"},
		{"passwordPASSWORDpassword", "saltSALTsaltSALTsaltSALTsaltSALTsalt", 4096, "348c89dbcbd32b2f32d814b8116e84cf2b17347ebc1800181c4e2a1fb8dd53e1c635518c7dac47e9"},
		{"pass\x00word", "sa\x00lt", 4096, "89b69d0516f829893c696226650a8687"},
	} {
		want := unhex(t, row.want)
		checkPassword(t, []byte(row.password), []byte(row.salt), row.iterations, len(want), want)
	}
}

// TestPasswordErrors combines lengths, iterations and numbers of bytes that are allowed with others that are not.
func TestPasswordErrors(t *testing.T) {
	some := append([]int{0, 8, 4096}, longLengths...)
	outputs := append([]int{1, 32, 1024}, wrongOutputs...)
	numbers := append([]int{1, 2}, wrongIterations...)
	for _, i := range some {
		for _, j := range some {
			for _, iterations := range numbers {
				for _, n := range outputs {
					right := max(i, j) <= 4096 && iterations >= 1 && iterations <= 65536 && n >= 1 && n <= 1024
					got, e := derive.Password(make([]byte, i), make([]byte, j), iterations, n)
					if right && (e != api.OK || len(got) != n) || !right && (e != api.ErrArg || got != nil) {
						t.Errorf("%d and %d bytes, %d iterations, %d bytes of them: %d bytes, error %d", i, j, iterations, n, len(got), e)
					}
				}
			}
		}
	}
}
