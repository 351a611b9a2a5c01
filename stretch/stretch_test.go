package stretch

import (
	"bytes"
	"crypto/pbkdf2"
	"crypto/sha256"
	"encoding/hex"
	"math"
	"testing"

	"hypogeum/api"
	"hypogeum/mac"
)

// sizes are the lengths of passphrases and salts around which a block of the tag changes, and lengths far from them.
var sizes = []int{0, 1, 2, 8, 31, 32, 33, 50, 51, 52, 53, 59, 60, 61, 62, 63, 64, 65, 66, 127, 128, 129, 1000, 5000}

// lengths are the numbers of bytes of a key around which its blocks change.
var lengths = []int{0, 1, 2, 20, 31, 32, 33, 63, 64, 65, 96, 97, 128, 160, 191, 192, 193, 223, 224, 225, 255, 256}

// vectors are the example of the chapter, one of RFC 7914, those of RFC 6070 as published for SHA-256, and two with nothing for the passphrase or the salt.
var vectors = []struct {
	name, pass, salt string
	rounds, n        int
	want             string
}{
	{"chapter", "password", "salt", 1, 20, "120fb6cffcf8b32c43e7225256c4f837a86548c9"},
	{"RFC 7914", "passwd", "salt", 1, 64,
		"55ac046e56e3089fec1691c22544b605f94185216dde0465e68b9d57c20dacbc49ca9cccf179b645991664b39d77ef317c71b845b1e30bd509112041d3a19783"},
	{"RFC 6070, 1", "password", "salt", 1, 32, "120fb6cffcf8b32c43e7225256c4f837a86548c92ccc35480805987cb70be17b"},
	{"RFC 6070, 2", "password", "salt", 2, 32, "ae4d0c95af6b46d32d0adff928f06dd02a303f8ef3c251dfd6e2d85a95474c43"},
	{"RFC 6070, 3", "password", "salt", 4096, 32, "c5e478d59288c841aa530db6845c4c8d962893a001ce4e11a4963873aa98134a"},
	{"RFC 6070, 5", "passwordPASSWORDpassword", "saltSALTsaltSALTsaltSALTsaltSALTsalt", 4096, 40,
		"348c89dbcbd32b2f32d814b8116e84cf2b17347ebc1800181c4e2a1fb8dd53e1c635518c7dac47e9"},
	{"RFC 6070, 6", "pass\x00word", "sa\x00lt", 4096, 16, "89b69d0516f829893c696226650a8687"},
	{"no passphrase", "", "salt", 1024, 32, "9e83f279c040f2a11aa4a02b24c418f2d3cb39560c9627fa4f47e3bcc2897c3d"},
	{"no salt", "password", "", 1024, 32, "ea5808411eb0c7e830deab55096cee582761e22a9bc034e3ece925225b07bf46"},
}

// P4.1

func TestKeyVectors(t *testing.T) {
	for _, v := range vectors {
		got, e := Key([]byte(v.pass), []byte(v.salt), v.rounds, v.n)
		if hex.EncodeToString(got) != v.want || e != api.OK {
			t.Errorf("%s: Key = %x, %d; want %s", v.name, got, e, v.want)
		}
	}
}

func TestKeyEveryLength(t *testing.T) {
	pass, salt := []byte("password"), []byte("salt")
	for n := range 257 {
		for _, rounds := range []int{1, 2, 5} {
			check(t, pass, salt, rounds, n)
		}
	}
}

func TestKeyEveryPassphraseAndSalt(t *testing.T) {
	for _, n := range sizes {
		for _, m := range sizes {
			check(t, pattern(n), pattern(m), 2, 40)
		}
	}
	for n := range 140 {
		check(t, pattern(n), []byte("salt"), 1, 33)
		check(t, []byte("password"), pattern(n), 3, 33)
	}
}

func TestKeyRounds(t *testing.T) {
	for _, rounds := range []int{1, 2, 3, 4, 5, 31, 32, 33, 255, 256, 257, 1000, 4095, 4096} {
		for _, n := range []int{1, 32, 33} {
			check(t, []byte("password"), []byte("salt"), rounds, n)
		}
	}
	check(t, pattern(100), pattern(100), 4096, 256)
}

func TestKeyOfNothing(t *testing.T) {
	for _, rounds := range []int{1, 2, 4096} {
		for _, n := range []int{0, 1, 32, 33, 64} {
			check(t, nil, nil, rounds, n)
			check(t, []byte{}, []byte{}, rounds, n)
			check(t, nil, []byte("salt"), rounds, n)
			check(t, []byte("password"), nil, rounds, n)
		}
	}
}

func TestKeyKeepsZeroBytesOfASalt(t *testing.T) {
	first, _ := Key([]byte("password"), []byte("salt"), 1, 32)
	second, _ := Key([]byte("password"), []byte("salt\x00"), 1, 32)
	third, _ := Key([]byte("password"), []byte("salt\x00\x00\x00\x01"), 1, 32)
	if bytes.Equal(first, second) || bytes.Equal(first, third) || bytes.Equal(second, third) {
		t.Error("salts that differ at their end give one key")
	}
}

func TestKeyHashesLongPassphrases(t *testing.T) {
	long := pattern(65)
	sum := sha256.Sum256(long)
	got, _ := Key(long, []byte("salt"), 3, 50)
	if same, _ := Key(sum[:], []byte("salt"), 3, 50); !bytes.Equal(got, same) {
		t.Error("a passphrase of 65 bytes is not its sum")
	}
	whole := pattern(64)
	sum = sha256.Sum256(whole)
	got, _ = Key(whole, []byte("salt"), 3, 50)
	if other, _ := Key(sum[:], []byte("salt"), 3, 50); bytes.Equal(got, other) {
		t.Error("a passphrase of 64 bytes is its sum")
	}
}

func TestKeyRoundsOutOfRange(t *testing.T) {
	for _, rounds := range []int{math.MinInt, math.MinInt + 1, math.MinInt32, -4096, -2, -1, 0, 4097, 4098, 8192, math.MaxInt32, 1 << 32, 1<<32 + 1, math.MaxInt} {
		for _, n := range []int{math.MinInt, -1, 0, 1, 32, 256, 257, math.MaxInt} {
			refused(t, rounds, n, api.ErrRange)
		}
	}
}

func TestKeyLengthOutOfRange(t *testing.T) {
	for _, n := range []int{math.MinInt, math.MinInt + 1, math.MinInt32, -256, -32, -2, -1, 257, 258, 288, 512, math.MaxInt32, 1 << 32, 1<<32 + 1, math.MaxInt - 31, math.MaxInt} {
		for _, rounds := range []int{1, 2, 4096} {
			refused(t, rounds, n, api.ErrLong)
		}
	}
}

func TestKeyLimitsAreAllowed(t *testing.T) {
	for _, rounds := range []int{1, 4096} {
		for _, n := range []int{0, 256} {
			if got, e := Key(nil, nil, rounds, n); len(got) != n || e != api.OK {
				t.Errorf("%d rounds, %d bytes: %d bytes, %d", rounds, n, len(got), e)
			}
		}
	}
}

// P4.2

func TestShorterKeyIsAPrefix(t *testing.T) {
	for _, rounds := range []int{1, 2, 7} {
		whole, _ := Key([]byte("p"), []byte("s"), rounds, 256)
		for n := range 257 {
			if got, e := Key([]byte("p"), []byte("s"), rounds, n); !bytes.Equal(got, whole[:n]) || e != api.OK {
				t.Errorf("%d rounds: %d bytes are no prefix of 256: %x, %d", rounds, n, got, e)
			}
		}
	}
}

func TestOneRoundIsTheTag(t *testing.T) {
	for _, n := range sizes {
		pass, salt := pattern(n), pattern(n/2+3)
		got, _ := Key(pass, salt, 1, 256)
		for i := range 8 {
			tag := mac.Tag(pass, salt, []byte{0, 0, 0, byte(i + 1)})
			if !bytes.Equal(got[32*i:32*i+32], tag[:]) {
				t.Errorf("passphrase of %d bytes: block %d is %x; want %x", n, i+1, got[32*i:32*i+32], tag)
			}
		}
	}
}

func TestFurtherRoundAddsTheNextTag(t *testing.T) {
	for _, n := range []int{0, 8, 63, 64, 65, 1000} {
		pass, salt := pattern(n), []byte("salt")
		for i := range 8 {
			tag := mac.Tag(pass, salt, []byte{0, 0, 0, byte(i + 1)})
			before := make([]byte, 32)
			for rounds := 1; rounds <= 20; rounds++ {
				key, _ := Key(pass, salt, rounds, 256)
				after := key[32*i : 32*i+32]
				if !bytes.Equal(xor(before, after), tag[:]) {
					t.Errorf("passphrase of %d bytes: round %d changes block %d by %x; want %x", n, rounds, i+1, xor(before, after), tag)
				}
				before, tag = after, mac.Tag(pass, tag[:])
			}
		}
	}
}

// Memory (DOC.md, 'Rules that hold everywhere')

func TestArgumentsAreLeftAsTheyWere(t *testing.T) {
	for _, size := range []int{0, 1, 63, 64, 65, 200} {
		for _, n := range []int{-1, 0, 1, 31, 32, 33, 256, 257} {
			pass, salt := pattern(256), pattern(256)
			for _, rounds := range []int{0, 1, 3} {
				Key(pass[:size], salt[:size], rounds, n)
			}
			if !bytes.Equal(pass, pattern(256)) || !bytes.Equal(salt, pattern(256)) {
				t.Errorf("%d bytes: a passphrase or salt of %d bytes or its spare capacity is changed", n, size)
			}
		}
	}
}

func TestSpareCapacityDoesNotCount(t *testing.T) {
	room := pattern(256)
	for _, size := range []int{0, 1, 63, 64, 65} {
		check(t, room[:size], room[:size/2], 2, 40)
		check(t, room[size:], room[:size], 2, 40)
		check(t, room[:size], room[size:], 2, 40)
	}
}

func TestWhatWasHandedInMayBeWrittenOver(t *testing.T) {
	for _, size := range []int{1, 8, 63, 64, 65, 300} {
		pass, salt := pattern(size), pattern(size)
		first, _ := Key(pass, salt, 2, 256)
		overwrite(pass)
		overwrite(salt)
		if !bytes.Equal(first, want(pattern(size), pattern(size), 2, 256)) {
			t.Errorf("the key of a passphrase of %d bytes changes with what was handed in", size)
		}
		check(t, pass, salt, 2, 256)
		check(t, pattern(size), pattern(size), 2, 256)
	}
}

func TestResultsAreIndependent(t *testing.T) {
	pass, salt := pattern(70), pattern(300)
	for _, n := range lengths {
		first, _ := Key(pass, salt, 2, n)
		second, _ := Key(pass, salt, 2, n)
		if cap(first) != n {
			t.Errorf("a key of %d bytes has a capacity of %d", n, cap(first))
		}
		overwrite(first[:cap(first)])
		if !bytes.Equal(second, want(pass, salt, 2, n)) {
			t.Errorf("two keys of %d bytes share memory", n)
		}
		check(t, pass, salt, 2, n)
		if !bytes.Equal(pass, pattern(70)) || !bytes.Equal(salt, pattern(300)) {
			t.Errorf("a key of %d bytes shares memory with an argument", n)
		}
	}
}

func TestKeyDoesNotDependOnEarlierCalls(t *testing.T) {
	first, _ := Key([]byte("one"), []byte("salt"), 3, 64)
	Key([]byte("two"), []byte("pepper"), 5, 100)
	Key([]byte("one"), []byte("salt"), 0, 64)
	if second, _ := Key([]byte("one"), []byte("salt"), 3, 64); !bytes.Equal(first, second) {
		t.Error("one call is answered in two ways")
	}
}

// check fails unless Key returns what the library of the language computes.
func check(t *testing.T, pass, salt []byte, rounds, n int) {
	t.Helper()
	got, e := Key(pass, salt, rounds, n)
	if !bytes.Equal(got, want(pass, salt, rounds, n)) || e != api.OK {
		t.Errorf("passphrase of %d bytes, salt of %d, %d rounds, %d bytes: %x, %d", len(pass), len(salt), rounds, n, got, e)
	}
}

// refused fails unless Key returns the error and no bytes.
func refused(t *testing.T, rounds, n int, e api.Errno) {
	t.Helper()
	for _, b := range [][]byte{nil, []byte("password"), pattern(100)} {
		if got, f := Key(b, b, rounds, n); len(got) != 0 || cap(got) != 0 || f != e {
			t.Errorf("%d rounds, %d bytes: %x, %d; want error %d", rounds, n, got, f, e)
		}
	}
}

// want returns the key as the library of the language computes it, which refuses to make 0 bytes.
func want(pass, salt []byte, rounds, n int) []byte {
	key, err := pbkdf2.Key(sha256.New, string(pass), salt, rounds, max(n, 1))
	if err != nil {
		panic(err)
	}
	return key[:n]
}

// xor returns the exclusive or of a and b, which have the same length.
func xor(a, b []byte) []byte {
	out := make([]byte, len(a))
	for i := range a {
		out[i] = a[i] ^ b[i]
	}
	return out
}

// overwrite changes every byte of b.
func overwrite(b []byte) {
	for i := range b {
		b[i] ^= 0xee
	}
}

// pattern returns n bytes that do not repeat with the blocks.
func pattern(n int) []byte {
	b := make([]byte, n)
	for i := range b {
		b[i] = byte(i%251 + 1)
	}
	return b
}
