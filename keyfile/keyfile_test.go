package keyfile

import (
	"bytes"
	"crypto/pbkdf2"
	"crypto/sha256"
	"encoding/binary"
	"encoding/hex"
	"fmt"
	"math"
	"math/rand/v2"
	"slices"
	"testing"

	"hypogeum/api"
	"hypogeum/box"
	"hypogeum/label"
)

const lastNumber = 1 << 40

// rightSalts are salts of files; the last one has spare capacity.
var rightSalts = [][]byte{make([]byte, 16), ones(16), pattern(16), pattern(100)[:16]}

// wrongSalts are bytes that are no salts of files; some have the right length only together with their spare capacity.
var wrongSalts = [][]byte{nil, {}, {1}, pattern(8), pattern(14), pattern(15), pattern(17), pattern(18), make([]byte, 32), pattern(256 + 16), pattern(1<<16 + 16), pattern(16)[:15], pattern(16)[:0]}

// rightRounds are rounds of files.
var rightRounds = []int{1, 2, 3, 127, 255, 256, 4094, 4095, 4096}

// wrongRounds are numbers that are no rounds of files: some of them are right ones in their lowest byte, or in their lowest four.
var wrongRounds = []int{0, -1, -2, -255, -4095, -4096, -4097, -1 << 31, -1<<32 + 1, -1 << 32, -1 << 40, math.MinInt + 1, math.MinInt,
	4097, 4098, 8192, 1 << 16, 1<<16 + 1, 1 << 31, 1<<32 - 1, 1 << 32, 1<<32 + 1, 1<<32 + 4096, 1 << 53, math.MaxInt - 1, math.MaxInt}

// rightNumbers are numbers of files: those at both ends, and those around which another byte is used.
var rightNumbers = []int{1, 2, 5, 255, 256, 1<<16 - 1, 1 << 31, 1<<32 - 1, 1 << 32, 0x0102030405, lastNumber - 1, lastNumber}

// wrongNumbers are numbers that no file has.
var wrongNumbers = []int{0, -1, -2, -5, -1 << 32, -1<<40 + 1, -1 << 40, -1<<40 - 1, -1<<56 + 5, math.MinInt + 1, math.MinInt,
	lastNumber + 1, lastNumber + 2, 1<<40 + 1<<32, 1 << 41, 1<<48 + 1, 1 << 53, 1<<56 + 5, 1 << 62, math.MaxInt - 1, math.MaxInt}

// rightLengths are lengths of boxes of files.
var rightLengths = []int{49, 82, 115, 16 + 33*7, 16 + 33*8, 16 + 33*32, 16 + 33*63, 16 + 33*64}

// wrongLengths are lengths that no box of a file has.
var wrongLengths = []int{0, 1, 15, 16, 17, 32, 33, 34, 47, 48, 50, 51, 64, 65, 66, 81, 83, 99, 33 * 63, 33 * 64, 16 + 33*64 - 1, 16 + 33*64 + 1,
	16 + 33*65 - 1, 16 + 33*65, 16 + 33*65 + 1, 16 + 33*66, 16 + 33*128, 16 + 33*256, 16 + 33*257, 16 + 33*1000, 1 << 16, 1<<16 + 49}

// passes are passphrases of all sorts: no two of them fill a block of HMAC alike.
var passes = [][]byte{nil, []byte("a"), []byte("pass"), []byte("Pass"), []byte("pass "), []byte("passphrase"), {0xff}, {0, 1}, []byte("Schlüssel"),
	pattern(32), pattern(63), pattern(64), pattern(65), pattern(66), pattern(128), pattern(1000), ones(64), ones(65), make([]byte, 65), make([]byte, 1<<16)}

// vectors are files as another library makes them.
var vectors = []struct {
	name           string
	pass, salt     []byte
	rounds, number int
	masters        map[int][]byte
	want           string
}{
	{"one master key", []byte("pass"), make([]byte, 16), 3, 5, map[int][]byte{1: make([]byte, 32)},
		"750000000000000000000000000000000000000003000000000000000500000031922e129e3b24b522d165edbb874bec8882379ce70dd3cb442438b2afca3180e554a5d6ac88d3f5e628e59c602faf619e8e"},
	{"two master keys", []byte("pass"), make([]byte, 16), 3, 5, map[int][]byte{1: make([]byte, 32), 2: append([]byte{9}, make([]byte, 31)...)},
		"750000000000000000000000000000000000000003000000000000000500000052922e129e3b24b522d165edbb874bec8882379ce70dd3cb442438b2afca3180e554f7647a54c7d1d448147163317c13d9ac6bdae91c1b2dcdc358ac419031ec425d4c0c7dbfd27314f4b1b34ea9c0ec04c502"},
	{"an empty passphrase", nil, pattern(16), 1, 1, map[int][]byte{64: ones(32)},
		"750102030405060708090a0b0c0d0e0f10000000010000000000000001000000310da01b4763f75e0949d164f95b87860d929cb0a6fdab9ff3b8aa6df56046380980ae2fe93e9ca3875dbb96ec6223122cc9"},
	{"a long passphrase", pattern(65), ones(16), 4096, 1 << 40, map[int][]byte{1: master(1), 33: master(33), 64: master(64)},
		"75ffffffffffffffffffffffffffffffff0000100000000100000000000000007308a51674d56f61406bf105dc26dc571f5d2a4f428293638503ff8b658d6c86a6e836aed7063ba7188486a894f788ad17c6b2d8607f3e1c807bed6200de8dbab11b9392ad0bf4dde33a181d6977843ba9180c52c74f3342d3554a34259e60ea562428e189190837bdf59167dc34c3e1cf87199a"},
	{"a passphrase of a block", pattern(64), pattern(16), 2, 0x0102030405, map[int][]byte{7: master(7)},
		"750102030405060708090a0b0c0d0e0f1000000002000000010203040500000031ccf12bdffc01812c7294485af5d708c82d59114e994ec48b7819794d37eeab0b5aec1ad2f3b08badbe53eef14c73d7329b"},
}

// P11.1: Right and Put

func TestRight(t *testing.T) {
	right := File{Salt: pattern(16), Rounds: 1, Number: 1, Box: pattern(49)}
	if !right.Right() {
		t.Error("the file of 82 bytes is not valid")
	}
	for i, change := range []func(f *File){
		func(f *File) { f.Salt = nil }, func(f *File) { f.Salt = f.Salt[:15] }, func(f *File) { f.Salt = pattern(17) },
		func(f *File) { f.Rounds = 0 }, func(f *File) { f.Rounds = -1 }, func(f *File) { f.Rounds = 4097 },
		func(f *File) { f.Number = 0 }, func(f *File) { f.Number = -1 }, func(f *File) { f.Number = 1<<40 + 1 },
		func(f *File) { f.Box = nil }, func(f *File) { f.Box = f.Box[:16] }, func(f *File) { f.Box = f.Box[:48] }, func(f *File) { f.Box = pattern(50) }, func(f *File) { f.Box = pattern(16 + 33*65) },
	} {
		f := right
		change(&f)
		if f.Right() || len(f.Put()) != 0 {
			t.Errorf("file %d is valid: %v", i, f)
		}
	}
	var zero File
	checkNoFile(t, zero)
}

func TestRightAndPutOfAllCombinations(t *testing.T) {
	boxes := map[int][]byte{}
	for _, n := range slices.Concat(rightLengths, wrongLengths) {
		boxes[n] = pattern(n)
	}
	boxes[0] = nil
	for i, salt := range slices.Concat(rightSalts, wrongSalts) {
		for j, rounds := range slices.Concat(rightRounds, wrongRounds) {
			for k, number := range slices.Concat(rightNumbers, wrongNumbers) {
				for l, length := range slices.Concat(rightLengths, wrongLengths) {
					f := File{Salt: salt, Rounds: rounds, Number: number, Box: boxes[length]}
					if i < len(rightSalts) && j < len(rightRounds) && k < len(rightNumbers) && l < len(rightLengths) {
						checkFile(t, f)
					} else {
						checkNoFile(t, f)
					}
				}
			}
		}
	}
}

func TestRightAtBothEndsOfItsRanges(t *testing.T) {
	right := func() File { return File{Salt: pattern(16), Rounds: 7, Number: 8, Box: pattern(82)} }
	check := func(f File, want bool) {
		t.Helper()
		if want {
			checkFile(t, f)
		} else {
			checkNoFile(t, f)
		}
	}
	for n := range 300 {
		f := right()
		f.Salt = pattern(n)
		check(f, n == 16)
	}
	for n := range 2300 {
		f := right()
		f.Box = pattern(n)
		check(f, n > 16 && (n-16)%33 == 0 && (n-16)/33 <= 64)
	}
	for n := -300; n <= 4500; n++ {
		f := right()
		f.Rounds = n
		check(f, n >= 1 && n <= 4096)
	}
	for d := -300; d <= 300; d++ {
		f, g := right(), right()
		f.Number, g.Number = d, lastNumber+d
		check(f, d >= 1)
		check(g, d <= 0)
	}
}

func TestSpareCapacityDoesNotCount(t *testing.T) {
	room := pattern(3000)
	checkNoFile(t, File{Salt: room[:15], Rounds: 1, Number: 1, Box: room[:49]})
	checkNoFile(t, File{Salt: room[:16], Rounds: 1, Number: 1, Box: room[:48]})
	checkNoFile(t, File{Salt: room[:16], Rounds: 1, Number: 1, Box: room[:16]})
	checkNoFile(t, File{Salt: room[:16], Rounds: 1, Number: 1, Box: room[:0]})
	checkFile(t, File{Salt: room[:16], Rounds: 1, Number: 1, Box: room[:49]})
	checkFile(t, File{Salt: room[100:116], Rounds: 1, Number: 1, Box: room[200 : 200+16+33*64]})
	b := want(File{Salt: pattern(16), Rounds: 1, Number: 1, Box: pattern(49)})
	for n := range b {
		checkRead(t, b[:n])
	}
}

func TestPut(t *testing.T) {
	f := File{Salt: unhex("000102030405060708090a0b0c0d0e0f"), Rounds: 0x0102, Number: 0x0304050607, Box: append(ones(48), 0x11)}
	got := f.Put()
	if want := "75" + "000102030405060708090a0b0c0d0e0f" + "00000102" + "0000000304050607" + "00000031" + hex.EncodeToString(ones(48)) + "11"; hex.EncodeToString(got) != want {
		t.Errorf("Put = %x; want %s", got, want)
	}
	f.Box = append(ones(16+33*64-1), 0x22)
	got = f.Put()
	if want := "75" + "000102030405060708090a0b0c0d0e0f" + "00000102" + "0000000304050607" + "00000850" + hex.EncodeToString(ones(16+33*64-1)) + "22"; hex.EncodeToString(got) != want {
		t.Errorf("Put = %x; want %s", got, want)
	}
}

// P11.1: Size and Get

func TestSizeAndGetOfEveryPart(t *testing.T) {
	for _, length := range []int{49, 82, 115, 16 + 33*64} {
		b := want(File{Salt: pattern(16), Rounds: 4096, Number: lastNumber, Box: pattern(length)})
		for n := range len(b) + 1 {
			checkRead(t, b[:n:n])
			checkRead(t, b[:n])
		}
		for _, more := range []int{1, 2, 16, 33, 48, 49, len(b), 1000, 1 << 16} {
			checkRead(t, append(slices.Clip(b), pattern(more)...))
			checkRead(t, append(slices.Clip(b), make([]byte, more)...))
		}
		checkRead(t, append(slices.Clip(b), b...))
	}
}

func TestSizeAndGetOfNothing(t *testing.T) {
	for _, b := range [][]byte{nil, {}, pattern(9)[:0], pattern(9)[9:]} {
		n, e := Size(b)
		f, e2 := Get(b)
		if n != 0 || e != api.ErrShort || !isZero(f) || e2 != api.ErrShort {
			t.Errorf("Size and Get of no bytes = %d, %d, %v, %d", n, e, f, e2)
		}
	}
}

func TestSizeAndGetOfEveryLength(t *testing.T) {
	for _, b := range [][]byte{make([]byte, 3000), ones(3000), pattern(3000), bytes.Repeat([]byte{0x75}, 3000), append(want(File{Salt: pattern(16), Rounds: 1, Number: 1, Box: pattern(49)}), make([]byte, 3000)...)} {
		for n := range 300 {
			checkRead(t, b[:n:n])
			checkRead(t, b[:n])
		}
		checkRead(t, b)
	}
}

func TestSizeAndGetOfEveryHeader(t *testing.T) {
	rounds := []uint32{0, 1, 2, 255, 256, 4095, 4096, 4097, 8192, 1 << 16, 1<<16 + 1, 1 << 24, 1<<24 + 1, 1<<31 - 1, 1 << 31, 1<<31 + 1, math.MaxUint32}
	numbers := []uint64{0, 1, 2, 256, 1<<32 - 1, 1 << 32, 1<<40 - 1, 1 << 40, 1<<40 + 1, 1<<40 + 1<<32, 1 << 41, 1<<48 + 1, 1<<56 + 5, 1<<63 - 1, 1 << 63, 1<<63 + 1, 1<<63 + 1<<40, math.MaxUint64}
	lengths := []uint32{0, 1, 16, 17, 33, 48, 49, 50, 81, 82, 83, 16 + 33*64 - 1, 16 + 33*64, 16 + 33*64 + 1, 16 + 33*65, 16 + 33*65 + 1, 1<<16 + 49, 1<<24 + 49, 1<<31 - 1, 1<<31 + 49, math.MaxUint32 - 32, math.MaxUint32}
	room := make([]byte, 33+2200)
	for _, first := range []byte{0x75, 0x74, 0x76, 0, 0xf5} {
		for _, r := range rounds {
			for _, n := range numbers {
				for _, l := range lengths {
					copy(room, header(first, pattern(16), r, n, l))
					for _, body := range []int{0, 1, int(l) - 1, int(l), int(l) + 1} {
						if body >= 0 && body < 2200 {
							checkRead(t, room[:33+body])
						}
					}
				}
			}
		}
	}
}

func TestSizeAndGetOfEveryFirstByteAndNumber(t *testing.T) {
	body := pattern(16 + 33*64)
	for c := range 256 {
		checkRead(t, append(header(byte(c), pattern(16), 1, 1, 49), body[:49]...))
	}
	for r := range uint32(4500) {
		checkRead(t, append(header(0x75, pattern(16), r, 1, 49), body[:49]...))
	}
	for l := range uint32(2300) {
		checkRead(t, append(header(0x75, pattern(16), 1, 1, l), body[:min(int(l), len(body))]...))
		checkRead(t, append(header(0x75, pattern(16), 1, 1, l), body[:49]...))
	}
	for d := range uint64(600) {
		checkRead(t, append(header(0x75, pattern(16), 1, d, 49), body[:49]...))
		checkRead(t, append(header(0x75, pattern(16), 1, lastNumber-300+d, 49), body[:49]...))
	}
}

func TestSizeAndGetOfEveryByteAtEveryPlace(t *testing.T) {
	for _, f := range []File{
		{Salt: pattern(16), Rounds: 1, Number: 1, Box: pattern(49)},
		{Salt: ones(16), Rounds: 4096, Number: lastNumber, Box: ones(82)},
		{Salt: make([]byte, 16), Rounds: 4095, Number: lastNumber - 1, Box: pattern(16 + 33*64)},
	} {
		b := want(f)
		for at := range b[:33+49] {
			for c := range 256 {
				other := bytes.Clone(b)
				other[at] = byte(c)
				checkRead(t, other)
			}
		}
	}
}

func TestOrderOfTheErrorsOfSizeAndGet(t *testing.T) {
	right, body := header(0x75, pattern(16), 1, 1, 49), pattern(49)
	for i, c := range []struct {
		b    []byte
		size int
		e    api.Errno
		get  api.Errno
	}{
		// ErrShort of the header goes ahead of ErrForm.
		{make([]byte, 32), 0, api.ErrShort, api.ErrShort}, {right[:32], 0, api.ErrShort, api.ErrShort}, {ones(32), 0, api.ErrShort, api.ErrShort},
		{header(0x74, pattern(16), 0, 0, 0)[:32], 0, api.ErrShort, api.ErrShort},
		// ErrForm goes ahead of ErrShort of the box.
		{make([]byte, 33), 0, api.ErrForm, api.ErrForm}, {ones(33), 0, api.ErrForm, api.ErrForm}, {right, 0, api.ErrShort, api.ErrShort},
		{header(0x74, pattern(16), 1, 1, 49), 0, api.ErrForm, api.ErrForm}, {header(0x75, pattern(16), 0, 1, 49), 0, api.ErrForm, api.ErrForm}, {header(0x75, pattern(16), 4097, 1, 49), 0, api.ErrForm, api.ErrForm},
		{header(0x75, pattern(16), 1, 0, 49), 0, api.ErrForm, api.ErrForm}, {header(0x75, pattern(16), 1, 1<<40+1, 49), 0, api.ErrForm, api.ErrForm},
		{header(0x75, pattern(16), 1, 1, 16), 0, api.ErrForm, api.ErrForm}, {header(0x75, pattern(16), 1, 1, 48), 0, api.ErrForm, api.ErrForm}, {header(0x75, pattern(16), 1, 1, 16+33*65), 0, api.ErrForm, api.ErrForm},
		{slices.Concat(right, body[:1]), 0, api.ErrShort, api.ErrShort}, {slices.Concat(right, body[:48]), 0, api.ErrShort, api.ErrShort},
		{slices.Concat(right, body), 82, api.OK, api.OK},
		// Size does not mind further bytes.
		{slices.Concat(right, body, []byte{0}), 82, api.OK, api.ErrMore}, {slices.Concat(right, body, right, body), 82, api.OK, api.ErrMore},
		// ErrForm goes ahead of ErrMore.
		{slices.Concat(header(0x74, pattern(16), 1, 1, 49), body, []byte{0}), 0, api.ErrForm, api.ErrForm}, {slices.Concat(header(0x75, pattern(16), 0, 1, 49), body, []byte{0}), 0, api.ErrForm, api.ErrForm},
		{slices.Concat(header(0x75, pattern(16), 1, 1, 48), body), 0, api.ErrForm, api.ErrForm},
	} {
		n, e := Size(c.b)
		f, e2 := Get(c.b)
		if n != c.size || e != c.e || e2 != c.get || e2 != api.OK && !isZero(f) {
			t.Errorf("case %d: Size = %d, %d; Get = %v, %d; want %d, %d; %d", i, n, e, f, e2, c.size, c.e, c.get)
		}
	}
}

// P11.2: Make

func TestExample(t *testing.T) {
	for epoch := 1; epoch <= 64; epoch++ {
		f, e := Make([]byte("pass"), pattern(16), 1, 1, ringWith(epoch))
		if b := f.Put(); len(b) != 82 || e != api.OK {
			t.Errorf("a ring of the master key of epoch %d yields a file of %d bytes, %d", epoch, len(b), e)
		}
	}
}

func TestVectors(t *testing.T) {
	for _, v := range vectors {
		r := label.New()
		for epoch, m := range v.masters {
			r.Put(epoch, m)
		}
		f, e := Make(v.pass, v.salt, v.rounds, v.number, r)
		if got := hex.EncodeToString(f.Put()); got != v.want || e != api.OK {
			t.Errorf("%s: Make = %s, %d; want %s", v.name, got, e, v.want)
		}
		g, e := Get(unhex(v.want))
		opened, e2 := g.Open(v.pass)
		if e != api.OK || e2 != api.OK || !sameRing(opened, r) {
			t.Errorf("%s: Get = %d, Open = %d", v.name, e, e2)
		}
	}
	for _, v := range []struct {
		pass, salt     []byte
		rounds, number int
		want           string
	}{
		{[]byte("pass"), pattern(16), 2, 3, "3546e6a4f0f7e42d46e7ea7201fca56d0fbd168fc91af60dc240f4c62e4fa561"},
		{pattern(1000), ones(16), 1000, 1 << 32, "94f5f01bb676573ab165c325b0ce4aa99d6345ca57d3f6c8b5f2d88a518efc1c"},
	} {
		f, e := Make(v.pass, v.salt, v.rounds, v.number, ringWith(upTo(64)...))
		if sum := sha256.Sum256(f.Put()); hex.EncodeToString(sum[:]) != v.want || e != api.OK {
			t.Errorf("the SHA-256 of the file of all master keys = %x, %d; want %s", sum, e, v.want)
		}
	}
}

func TestMakeOfAllCombinations(t *testing.T) {
	rings := []*label.Ring{ringWith(1), ringWith(64), ringWith(2, 1, 9), ringWith(upTo(64)...), nil, label.New(), {}}
	// Few of the rounds, for those that there are many of take their time.
	few := []int{1, 2, 3}
	for i, salt := range slices.Concat(rightSalts, wrongSalts) {
		for j, rounds := range slices.Concat(few, wrongRounds) {
			for k, number := range slices.Concat(rightNumbers, wrongNumbers) {
				for l, r := range rings {
					if i < len(rightSalts) && j < len(few) && k < len(rightNumbers) && l < 4 {
						checkMake(t, []byte("pass"), salt, rounds, number, r)
					} else {
						checkNoMake(t, []byte("pass"), salt, rounds, number, r)
					}
				}
			}
		}
	}
}

func TestMakeAtBothEndsOfItsRanges(t *testing.T) {
	r := ringWith(3, 1)
	for n := range 100 {
		if n == 16 {
			checkMake(t, nil, pattern(n), 1, 1, r)
		} else {
			checkNoMake(t, nil, pattern(n), 1, 1, r)
		}
	}
	for n := -300; n <= 300; n++ {
		if n >= 1 {
			checkMake(t, nil, pattern(16), n%3+1, n, r)
		} else {
			checkNoMake(t, nil, pattern(16), 1, n, r)
			checkNoMake(t, nil, pattern(16), n, 1, r)
		}
		if n >= 1 {
			checkNoMake(t, nil, pattern(16), 1, lastNumber+n, r)
			checkNoMake(t, nil, pattern(16), 4096+n, 1, r)
		} else {
			checkMake(t, nil, pattern(16), 1, lastNumber+n, r)
		}
	}
	for _, rounds := range rightRounds {
		checkMake(t, []byte("pass"), pattern(16), rounds, 7, r)
	}
}

func TestMakeOfEveryRing(t *testing.T) {
	for n := 1; n <= 64; n++ {
		checkMake(t, []byte("pass"), pattern(16), 1, n, ringWith(upTo(n)...))
		checkMake(t, []byte("pass"), pattern(16), 1, n, ringWith(n))
		down := upTo(64)[64-n:]
		slices.Reverse(down)
		checkMake(t, []byte("pass"), pattern(16), 1, n, ringWith(down...))
	}
	same := label.New()
	for epoch := 64; epoch >= 1; epoch -= 3 {
		same.Put(epoch, make([]byte, 32))
		checkMake(t, nil, pattern(16), 1, 1, same)
	}
}

func TestMakeWithEveryPassphrase(t *testing.T) {
	for _, pass := range passes {
		for _, rounds := range []int{1, 2, 5} {
			checkMake(t, pass, pattern(16), rounds, 1, ringWith(2, 3))
		}
	}
	for n := range 200 {
		checkMake(t, ones(n), pattern(16), 1, 1, ringWith(2))
	}
	a, _ := Make(nil, pattern(16), 1, 1, ringWith(2))
	b, _ := Make([]byte{}, pattern(16), 1, 1, ringWith(2))
	if !same(a, b) || !a.Right() {
		t.Error("an empty passphrase and a nil one do not yield one file")
	}
}

func TestTheOrderOfARingDoesNotCount(t *testing.T) {
	want, _ := Make([]byte("pass"), pattern(16), 2, 9, ringWith(1, 2, 3, 17, 64))
	for _, order := range [][]int{{64, 17, 3, 2, 1}, {3, 1, 2, 64, 17}, {17, 64, 1, 3, 2}, {2, 1, 3, 17, 64}} {
		for range 5 {
			if got, e := Make([]byte("pass"), pattern(16), 2, 9, ringWith(order...)); !same(got, want) || e != api.OK {
				t.Errorf("Make of a ring put in the order %v = %v, %d; want %v", order, got, e, want)
			}
		}
	}
}

func TestEveryPartCountsForABox(t *testing.T) {
	seen := map[string]string{}
	note := func(pass, salt []byte, rounds, number int, epochs ...int) {
		what := fmt.Sprintf("%x, %x, %d, %d, %v", pass, salt, rounds, number, epochs)
		f, e := Make(pass, salt, rounds, number, ringWith(epochs...))
		if before, found := seen[string(f.Box)]; found || e != api.OK {
			t.Errorf("the boxes for %s and for %s are alike, or there is none: %d", before, what, e)
		}
		seen[string(f.Box)] = what
	}
	for _, pass := range passes {
		note(pass, pattern(16), 1, 1, 5)
	}
	for i := range 16 {
		salt := pattern(16)
		salt[i] ^= 0x80
		note([]byte("pass"), salt, 1, 1, 5)
	}
	for n := 2; n < 50; n++ {
		note([]byte("pass"), pattern(16), n, 1, 5)
		note([]byte("pass"), pattern(16), 1, n, 5)
		note([]byte("pass"), pattern(16), 1, n<<32, 5)
		note([]byte("pass"), pattern(16), 1, 1, 1, 1+n)
		note([]byte("pass"), pattern(16), 1, 1, 7+n)
	}
}

// P11.2: Open

func TestOpenOfWhatIsNoFile(t *testing.T) {
	room := pattern(1<<16 + 100)
	for i, salt := range slices.Concat(rightSalts[:2], wrongSalts) {
		for j, rounds := range slices.Concat(rightRounds[:1], wrongRounds) {
			for k, number := range slices.Concat(rightNumbers[:1], wrongNumbers) {
				for l, length := range slices.Concat(rightLengths[:2], wrongLengths) {
					if i < 2 && j < 1 && k < 1 && l < 2 {
						continue
					}
					checkNoOpen(t, File{Salt: salt, Rounds: rounds, Number: number, Box: room[:length]}, []byte("pass"), api.ErrArg)
				}
			}
		}
	}
	checkNoOpen(t, File{}, nil, api.ErrArg)
	checkNoOpen(t, File{}, []byte("pass"), api.ErrArg)
}

func TestOpenWithEveryPassphrase(t *testing.T) {
	for i, pass := range passes {
		f, _ := Make(pass, pattern(16), 2, 3, ringWith(4, 2))
		for j, other := range passes {
			if i == j {
				checkOpen(t, f, other, ringWith(2, 4))
			} else {
				checkNoOpen(t, f, other, api.ErrPass)
			}
		}
		// A passphrase that is longer, shorter, or another one in its last byte.
		checkNoOpen(t, f, append(bytes.Clone(pass), 'x'), api.ErrPass)
		if len(pass) > 0 {
			last := bytes.Clone(pass)
			last[len(last)-1] ^= 1
			checkNoOpen(t, f, last, api.ErrPass)
			checkNoOpen(t, f, nil, api.ErrPass)
			checkNoOpen(t, f, []byte{}, api.ErrPass)
		} else {
			checkOpen(t, f, []byte{}, ringWith(2, 4))
		}
	}
}

func TestOpenOfFilesWithAnotherSalt(t *testing.T) {
	f, _ := Make([]byte("pass"), pattern(16), 1, 3, ringWith(4, 2))
	for bit := range 128 {
		other := copyOf(f)
		other.Salt[bit/8] ^= 1 << (bit % 8)
		checkNoOpen(t, other, []byte("pass"), api.ErrPass)
	}
	for _, salt := range rightSalts[:2] {
		other := copyOf(f)
		other.Salt = salt
		checkNoOpen(t, other, []byte("pass"), api.ErrPass)
	}
}

func TestOpenOfFilesWithOtherRoundsOrAnotherNumber(t *testing.T) {
	for _, rounds := range []int{1, 2, 3, 256} {
		for _, number := range rightNumbers {
			f, _ := Make([]byte("pass"), pattern(16), rounds, number, ringWith(4, 2))
			for _, other := range []int{1, 2, 3, 4, 257, 1 + 1<<8} {
				if other != rounds {
					checkNoOpen(t, File{Salt: f.Salt, Rounds: other, Number: number, Box: f.Box}, []byte("pass"), api.ErrPass)
				}
			}
			for _, other := range rightNumbers {
				if other != number {
					checkNoOpen(t, File{Salt: f.Salt, Rounds: rounds, Number: other, Box: f.Box}, []byte("pass"), api.ErrPass)
				}
			}
			checkOpen(t, f, []byte("pass"), ringWith(4, 2))
		}
	}
	f, _ := Make([]byte("pass"), pattern(16), 4096, 1, ringWith(4))
	checkNoOpen(t, File{Salt: f.Salt, Rounds: 4095, Number: 1, Box: f.Box}, []byte("pass"), api.ErrPass)
	checkOpen(t, f, []byte("pass"), ringWith(4))
}

func TestOpenOfFilesWithAnotherBox(t *testing.T) {
	for _, epochs := range [][]int{{1}, {64, 1, 2}} {
		f, _ := Make([]byte("pass"), pattern(16), 1, 3, ringWith(epochs...))
		for bit := range 8 * len(f.Box) {
			other := copyOf(f)
			other.Box[bit/8] ^= 1 << (bit % 8)
			checkNoOpen(t, other, []byte("pass"), api.ErrPass)
		}
	}
	f, _ := Make([]byte("pass"), pattern(16), 1, 3, ringWith(1, 2, 3))
	for _, b := range [][]byte{f.Box[:49], f.Box[33:], f.Box[:82], append(bytes.Clone(f.Box), pattern(33)...), append(pattern(33), f.Box...), make([]byte, 49), ones(115)} {
		checkNoOpen(t, File{Salt: f.Salt, Rounds: 1, Number: 3, Box: b}, []byte("pass"), api.ErrPass)
	}
	g, _ := Make([]byte("pass"), pattern(16), 1, 4, ringWith(1, 2, 3))
	f.Box, g.Box = g.Box, f.Box
	checkNoOpen(t, f, []byte("pass"), api.ErrPass)
	checkNoOpen(t, g, []byte("pass"), api.ErrPass)
}

func TestOpenOfBoxesThatAreSealedInAnotherWay(t *testing.T) {
	pass, salt, text := []byte("pass"), pattern(16), text(1, 2)
	head := header(0x75, salt, 1, 3, 82)
	seal := func(key, once, other []byte) File {
		return File{Salt: salt, Rounds: 1, Number: 3, Box: must(box.Seal(key, once, other, text))}
	}
	key, once := keyOf(pass, salt, 1), nonceOf(0, 3)
	checkOpen(t, seal(key, once, head), pass, ringWith(1, 2))
	for i, f := range []File{
		seal(keyOf([]byte("pas"), salt, 1), once, head), seal(keyOf(pass, ones(16), 1), once, head), seal(keyOf(pass, salt, 2), once, head), seal(make([]byte, 32), once, head),
		seal(key, nonceOf(1, 3), head), seal(key, nonceOf(0, 4), head), seal(key, nonceOf(0, 0), head), seal(key, make([]byte, 12), head),
		seal(key, once, nil), seal(key, once, head[1:]), seal(key, once, head[:32]), seal(key, once, head[:29]), seal(key, once, head[:17]), seal(key, once, salt), seal(key, once, append(bytes.Clone(head), 0)),
		seal(key, once, header(0x74, salt, 1, 3, 82)), seal(key, once, header(0x75, salt, 1, 3, 66)), seal(key, once, header(0x75, salt, 1, 3, 0)), seal(key, once, header(0x75, salt, 1, 3, 16)), seal(key, once, header(0x75, salt, 1, 3, 2)),
		seal(key, once, header(0x75, salt, 1, 4, 82)), seal(key, once, header(0x75, salt, 2, 3, 82)), seal(key, once, header(0x75, ones(16), 1, 3, 82)),
	} {
		if r, e := f.Open(pass); r != nil || e != api.ErrPass {
			t.Errorf("Open of box %d = %v, %d", i, r, e)
		}
	}
}

func TestOpenOfWhatIsNoTextOfARing(t *testing.T) {
	full := upTo(64)
	cases := [][]int{{0}, {65}, {66}, {127}, {128}, {129}, {192}, {255}, {1, 1}, {64, 64}, {2, 1}, {64, 1}, {64, 63}, {0, 1}, {0, 0}, {1, 0}, {1, 65}, {65, 1}, {64, 65}, {65, 66}, {1, 255}, {255, 1},
		{1, 2, 2}, {1, 1, 2}, {1, 3, 2}, {2, 1, 3}, {3, 2, 1}, {2, 3, 1}, {1, 2, 1}, {1, 2, 0}, {1, 2, 65}, {0, 1, 2}, {1, 66, 2}, {7, 7, 7}, make([]int, 64),
		append(slices.Clone(full[1:]), 65), append([]int{0}, full[:63]...), append([]int{1}, full[:63]...), append(slices.Clone(full[:63]), 63), append(slices.Clone(full[1:]), 1)}
	for at := range full {
		for _, epoch := range []int{0, at, at + 2, 65, 255} {
			// Among these: the epoch before this place or the one behind it, twice.
			other := slices.Clone(full)
			other[at] = epoch
			cases = append(cases, other)
		}
	}
	for _, epochs := range cases {
		for _, number := range []int{1, lastNumber} {
			f := sealed([]byte("pass"), pattern(16), 1, number, text(epochs...))
			checkNoOpen(t, f, []byte("pass"), api.ErrForm)
			// ErrPass goes ahead of ErrForm, and ErrArg ahead of both.
			checkNoOpen(t, f, []byte("Pass"), api.ErrPass)
			f.Number = 0
			checkNoOpen(t, f, []byte("pass"), api.ErrArg)
		}
	}
}

func TestOpenOfOneOrTwoOfAllEpochs(t *testing.T) {
	for a := range 256 {
		checkSealed(t, a)
		for _, b := range []int{0, 1, a - 1, a, a + 1, 32, 63, 64, 65, 128, 255} {
			if b >= 0 && b < 256 {
				checkSealed(t, a, b)
				checkSealed(t, b, a)
				checkSealed(t, 1, a, b)
			}
		}
	}
}

func TestOpenOfATextOfTheSameMasterKeys(t *testing.T) {
	one := append([]byte{5}, pattern(32)...)
	checkNoOpen(t, sealed(nil, pattern(16), 1, 1, slices.Concat(one, one)), nil, api.ErrForm)
	zeros := append([]byte{5}, make([]byte, 32)...)
	f := sealed(nil, pattern(16), 1, 1, slices.Concat(zeros, append([]byte{6}, make([]byte, 32)...)))
	if r, e := f.Open(nil); e != api.OK || !slices.Equal(r.Epochs(), []int{5, 6}) || !bytes.Equal(r.Master(5), make([]byte, 32)) || !bytes.Equal(r.Master(6), make([]byte, 32)) {
		t.Errorf("Open of master keys of zeros = %v, %d", r, e)
	}
}

func TestErrorsOfOpenChangeNothing(t *testing.T) {
	f, _ := Make([]byte("pass"), pattern(16), 1, 3, ringWith(4, 2))
	for range 3 {
		checkNoOpen(t, f, []byte("Pass"), api.ErrPass)
		checkNoOpen(t, File{}, []byte("pass"), api.ErrArg)
		checkOpen(t, f, []byte("pass"), ringWith(4, 2))
	}
}

// P11.3

func TestAFileIsOpenedByItsPassphrase(t *testing.T) {
	for seed := range uint64(300) {
		r := rand.New(rand.NewPCG(seed, 11))
		ring, epochs := label.New(), r.Perm(64)[:1+r.IntN(64)]
		for _, epoch := range epochs {
			m := make([]byte, 32)
			for i := range m {
				m[i] = byte(r.Uint32())
			}
			ring.Put(epoch+1, m)
		}
		pass := passes[r.IntN(len(passes))]
		f, e := Make(pass, pattern(16 + r.IntN(9))[:16], 1+r.IntN(5), 1+r.IntN(lastNumber)>>r.IntN(40), ring)
		if e != api.OK {
			t.Fatalf("Make = %v, %d", f, e)
		}
		checkOpen(t, f, pass, ring)
		g, e := Get(f.Put())
		if !same(f, g) || e != api.OK {
			t.Fatalf("Get(Put) of %v = %v, %d", f, g, e)
		}
		checkOpen(t, g, pass, ring)
		again, _ := g.Open(pass)
		// What was opened is made anew, under another passphrase.
		h, _ := Make([]byte("another"), g.Salt, g.Rounds, g.Number, again)
		checkOpen(t, h, []byte("another"), ring)
		checkNoOpen(t, h, pass, api.ErrPass)
	}
}

func TestEveryCountOfMasterKeysIsOpened(t *testing.T) {
	for n := 1; n <= 64; n++ {
		for _, epochs := range [][]int{upTo(n), upTo(64)[64-n:]} {
			f, _ := Make([]byte("pass"), pattern(16), 1, n, ringWith(epochs...))
			checkOpen(t, f, []byte("pass"), ringWith(epochs...))
			if !f.Right() || len(f.Put()) != 33+16+33*n {
				t.Errorf("the file of %d master keys has %d bytes", n, len(f.Put()))
			}
		}
	}
}

func TestAFileOfTheMostRoundsIsOpened(t *testing.T) {
	f, _ := Make([]byte("pass"), ones(16), 4096, lastNumber, ringWith(upTo(64)...))
	checkOpen(t, f, []byte("pass"), ringWith(upTo(64)...))
}

func TestARingThatIsOpenedGoesOn(t *testing.T) {
	f, _ := Make([]byte("pass"), pattern(16), 1, 1, ringWith(1, 3))
	r, _ := f.Open([]byte("pass"))
	if a, b, c := r.Put(3, pattern(32)), r.Put(2, master(2)), r.Put(4, master(4)); a != api.ErrThere || b != api.OK || c != api.OK {
		t.Errorf("Put on a ring that was opened: %d, %d, %d", a, b, c)
	}
	if !sameRing(r, ringWith(1, 2, 3, 4)) {
		t.Errorf("the ring has the epochs %v", r.Epochs())
	}
	key, e := r.Key("seal", 3)
	if want := must(label.Key(master(3), "seal", 3)); !bytes.Equal(key, want) || e != api.OK {
		t.Errorf("Key = %x, %d; want %x", key, e, want)
	}
}

// P11.4

func TestGetIsInverseToPut(t *testing.T) {
	for _, salt := range rightSalts {
		for _, rounds := range rightRounds {
			for _, number := range rightNumbers {
				for n := 1; n <= 64; n += 7 {
					f := File{Salt: salt, Rounds: rounds, Number: number, Box: pattern(16 + 33*n)}
					if g, e := Get(f.Put()); !same(f, g) || e != api.OK {
						t.Fatalf("Get(Put) of %v = %v, %d", f, g, e)
					}
				}
			}
		}
	}
}

func TestPutIsInverseToGet(t *testing.T) {
	r, got := rand.New(rand.NewPCG(4, 11)), 0
	for range 20000 {
		b := want(File{Salt: pattern(16), Rounds: 1 + r.IntN(4096), Number: 1 + r.IntN(lastNumber), Box: pattern(16 + 33*(1+r.IntN(4)))})
		for range r.IntN(3) {
			b[r.IntN(len(b))] = byte(r.Uint32())
		}
		f, e := Get(b)
		checkRead(t, b)
		if e != api.OK {
			continue
		}
		got++
		if again := f.Put(); !bytes.Equal(again, b) {
			t.Fatalf("Put(Get(%x)) = %x", b, again)
		}
	}
	if got < 5000 {
		t.Errorf("only %d of the bytes are files", got)
	}
}

func TestTheEncodingIsUnique(t *testing.T) {
	seen := map[string]bool{}
	files := 0
	for _, salt := range rightSalts[:3] {
		for _, rounds := range rightRounds {
			for _, number := range rightNumbers {
				for _, b := range [][]byte{pattern(49), ones(49), pattern(82), pattern(16 + 33*64)} {
					seen[string(File{Salt: salt, Rounds: rounds, Number: number, Box: b}.Put())] = true
					files++
				}
			}
		}
	}
	if len(seen) != files {
		t.Errorf("%d files have %d encodings", files, len(seen))
	}
	for _, first := range []File{{Salt: pattern(16), Rounds: 7, Number: 9, Box: pattern(82)}, {Salt: ones(16), Rounds: 4096, Number: lastNumber, Box: ones(16 + 33*3)}} {
		b := first.Put()
		for bit := range 8 * len(b) {
			other := bytes.Clone(b)
			other[bit/8] ^= 1 << (bit % 8)
			if f, e := Get(other); e == api.OK && same(f, first) {
				t.Errorf("%x and %x are both the encoding of %v", b, other, first)
			}
		}
	}
}

// DOC.md, 'Memory'

func TestArgumentsOfMakeAreLeftAsTheyWere(t *testing.T) {
	for _, n := range []int{0, 1, 15, 16, 17, 64, 65, 100} {
		for _, size := range []int{0, 15, 16, 17, 32} {
			for _, rounds := range []int{0, 1, 2} {
				for _, epochs := range [][]int{{}, {1}, {64, 3, 2}} {
					pass, salt, r := pattern(200), pattern(200), ringWith(epochs...)
					Make(pass[:n], salt[:size], rounds, 1, r)
					if !bytes.Equal(pass, pattern(200)) || !bytes.Equal(salt, pattern(200)) || !sameRing(r, ringWith(epochs...)) {
						t.Fatalf("a passphrase of %d bytes, a salt of %d bytes, their spare capacity, or the ring of %v is changed", n, size, epochs)
					}
				}
			}
		}
	}
}

func TestAFileIsLeftAsItWas(t *testing.T) {
	made, _ := Make([]byte("pass"), pattern(16), 1, 3, ringWith(4, 2))
	for _, size := range []int{15, 16, 17} {
		for _, length := range []int{48, 49, 82, 83, 115} {
			for _, rounds := range []int{0, 1, 2} {
				salt, boxes, pass := append(pattern(16), ones(100)...), append(bytes.Clone(made.Box), ones(100)...), append([]byte("pass"), ones(100)...)
				f := File{Salt: salt[:size], Rounds: rounds, Number: 3, Box: boxes[:length]}
				f.Right()
				f.Put()
				f.Open(pass[:4])
				f.Open(pass[:3])
				if !bytes.Equal(salt, append(pattern(16), ones(100)...)) || !bytes.Equal(boxes, append(bytes.Clone(made.Box), ones(100)...)) || !bytes.Equal(pass, append([]byte("pass"), ones(100)...)) {
					t.Fatalf("a salt of %d bytes, a box of %d bytes, the passphrase, or the spare capacity of one of them is changed", size, length)
				}
				if len(f.Salt) != size || len(f.Box) != length || f.Rounds != rounds || f.Number != 3 {
					t.Fatalf("the file is changed to %v", f)
				}
			}
		}
	}
}

func TestWhatIsReadIsLeftAsItWas(t *testing.T) {
	first := want(File{Salt: pattern(16), Rounds: 7, Number: 9, Box: pattern(82)})
	for n := range len(first) + 20 {
		room := append(bytes.Clone(first), pattern(40)...)
		before := bytes.Clone(room)
		f, e := Get(room[:n])
		Size(room[:n])
		if !bytes.Equal(room, before) {
			t.Fatalf("%d bytes or their spare capacity are changed", n)
		}
		overwrite(room)
		if g, e2 := Get(before[:n]); !same(f, g) || e != e2 {
			t.Errorf("Get of %d bytes, which were then written over = %v, %d; want %v, %d", n, f, e, g, e2)
		}
	}
}

func TestWhatMakeWasGivenMayBeWrittenOver(t *testing.T) {
	pass, salt, r := pattern(70), pattern(16), ringWith(2, 4)
	f, _ := Make(pass, salt, 2, 3, r)
	before := copyOf(f)
	overwrite(pass, salt, r.Master(2))
	r.Put(1, master(1))
	r.Put(5, master(5))
	if !same(f, before) {
		t.Errorf("the file changes to %v; it was %v", f, before)
	}
	checkOpen(t, f, pattern(70), ringWith(2, 4))
	checkMake(t, pattern(70), pattern(16), 2, 3, ringWith(2, 4))
}

func TestWhatWasOpenedMayBeWrittenOver(t *testing.T) {
	pass := []byte("pass")
	f, _ := Make(pass, pattern(16), 2, 3, ringWith(2, 4))
	b, before := f.Put(), copyOf(f)
	r, _ := f.Open(pass)
	overwrite(pass, f.Salt[:cap(f.Salt)], f.Box[:cap(f.Box)])
	if !sameRing(r, ringWith(2, 4)) {
		t.Error("the ring changes with the file or the passphrase")
	}
	if !bytes.Equal(b, want(before)) {
		t.Error("the encoding changes with the file")
	}
	checkOpen(t, before, []byte("pass"), ringWith(2, 4))
}

func TestThePartsOfAFileAreInMemoryOfTheirOwn(t *testing.T) {
	b := append(want(sealed([]byte("pass"), pattern(16), 1, 3, text(2, 4))), ones(100)...)
	for i, result := range []func() File{
		func() File { f, _ := Make([]byte("pass"), pattern(100)[:16], 1, 3, ringWith(2, 4)); return f },
		func() File { f, _ := Get(b[:33+82]); return f },
		func() File { f, _ := Get(slices.Clone(b[:33+82])); return f },
	} {
		first, f, g, h := result(), result(), result(), result()
		if !f.Right() || !same(f, first) {
			t.Fatalf("result %d is no file: %v", i, f)
		}
		overwrite(g.Salt[:cap(g.Salt)])
		_, _ = append(g.Salt, pattern(200)...), append(g.Salt[:0], pattern(cap(g.Salt))...)
		if !bytes.Equal(g.Box, first.Box) {
			t.Errorf("result %d: the box changes with the salt", i)
		}
		overwrite(h.Box[:cap(h.Box)])
		_, _ = append(h.Box, pattern(200)...), append(h.Box[:0], pattern(cap(h.Box))...)
		if !bytes.Equal(h.Salt, first.Salt) {
			t.Errorf("result %d: the salt changes with the box", i)
		}
		if !same(f, first) || !same(result(), first) {
			t.Errorf("result %d: two results share memory", i)
		}
		if !bytes.Equal(b[33+82:], ones(100)) || !bytes.Equal(b[:33+82], want(first)) {
			t.Fatalf("result %d shares memory with what was handed in", i)
		}
	}
}

func TestEncodingsAreInMemoryOfTheirOwn(t *testing.T) {
	for _, n := range []int{1, 2, 7, 64} {
		f := File{Salt: pattern(100)[:16], Rounds: 7, Number: 9, Box: pattern(3000)[:16+33*n]}
		a, b := f.Put(), f.Put()
		overwrite(a[:cap(a)])
		_ = append(a, pattern(100)...)
		if !bytes.Equal(b, want(f)) || !bytes.Equal(f.Put(), want(f)) {
			t.Errorf("two results of Put share memory")
		}
		if !bytes.Equal(f.Salt[:100], pattern(100)) || !bytes.Equal(f.Box[:3000], pattern(3000)) {
			t.Errorf("the result of Put shares memory with the file")
		}
		g, _ := Get(b)
		overwrite(b)
		if !same(f, g) {
			t.Errorf("the file changes with the bytes that were handed to Get")
		}
	}
}

func TestRingsAreIndependent(t *testing.T) {
	given := ringWith(2, 4)
	f, _ := Make([]byte("pass"), pattern(16), 1, 3, given)
	a, _ := f.Open([]byte("pass"))
	b, _ := f.Open([]byte("pass"))
	g := copyOf(f)
	c, _ := g.Open([]byte("pass"))
	if a == b || a == given || b == c {
		t.Fatal("one ring is returned twice")
	}
	a.Put(3, master(3))
	b.Put(5, master(5))
	for _, epoch := range []int{2, 4} {
		overwrite(a.Master(epoch))
	}
	if !sameRing(a, ringWith(2, 3, 4)) || !sameRing(b, ringWith(2, 4, 5)) || !sameRing(c, ringWith(2, 4)) || !sameRing(given, ringWith(2, 4)) {
		t.Errorf("a ring changes with another one: %v, %v, %v, %v", a.Epochs(), b.Epochs(), c.Epochs(), given.Epochs())
	}
	checkOpen(t, f, []byte("pass"), ringWith(2, 4))
}

func TestMakeAndOpenDoNotChangeFromCallToCall(t *testing.T) {
	want, _ := Make([]byte("pass"), pattern(16), 1, 3, ringWith(upTo(20)...))
	for range 50 {
		if f, e := Make([]byte("pass"), pattern(16), 1, 3, ringWith(upTo(20)...)); !same(f, want) || e != api.OK {
			t.Fatalf("Make = %v, %d; before, %v", f, e, want)
		}
		checkOpen(t, want, []byte("pass"), ringWith(upTo(20)...))
	}
}

// checkFile fails unless Right and Put, and Size and Get of what Put returns, return what they must for a valid file.
func checkFile(t *testing.T, f File) {
	t.Helper()
	b := f.Put()
	if !f.Right() || !bytes.Equal(b, want(f)) {
		t.Fatalf("Right of %v = %v; Put = %x; want %x", f, f.Right(), b, want(f))
	}
	n, e := Size(b)
	g, e2 := Get(b)
	if n != len(b) || e != api.OK || !same(f, g) || e2 != api.OK {
		t.Fatalf("Size = %d, %d; Get = %v, %d; want %d, %v", n, e, g, e2, len(b), f)
	}
}

// checkNoFile fails unless Right, Put and Open return what they must for what is not valid.
func checkNoFile(t *testing.T, f File) {
	t.Helper()
	if b := f.Put(); f.Right() || len(b) != 0 || cap(b) != 0 {
		t.Fatalf("Right of a salt of %d bytes, %d rounds, number %d, a box of %d bytes = %v; Put = %x", len(f.Salt), f.Rounds, f.Number, len(f.Box), f.Right(), b)
	}
	checkNoOpen(t, f, nil, api.ErrArg)
}

// checkRead fails unless Size and Get return what they must.
func checkRead(t *testing.T, b []byte) {
	t.Helper()
	size, wantErr := wantSize(b)
	if n, e := Size(b); n != size || e != wantErr {
		t.Fatalf("Size of %d bytes, %x = %d, %d; want %d, %d", len(b), b[:min(len(b), 33)], n, e, size, wantErr)
	}
	var f File
	switch {
	case wantErr == api.OK && len(b) > size:
		wantErr = api.ErrMore
	case wantErr == api.OK:
		f = File{Salt: b[1:17], Rounds: int(binary.BigEndian.Uint32(b[17:])), Number: int(binary.BigEndian.Uint64(b[21:])), Box: b[33:]}
	}
	got, e := Get(b)
	if !same(got, f) || e != wantErr || e != api.OK && !isZero(got) {
		t.Fatalf("Get of %d bytes, %x = %v, %d; want %v, %d", len(b), b[:min(len(b), 33)], got, e, f, wantErr)
	}
}

// checkMake fails unless Make returns the file that the chapter defines.
func checkMake(t *testing.T, pass, salt []byte, rounds, number int, r *label.Ring) {
	t.Helper()
	var content []byte
	for epoch := 1; epoch <= 64; epoch++ {
		if m := r.Master(epoch); len(m) != 0 {
			content = slices.Concat(content, []byte{byte(epoch)}, m)
		}
	}
	want := sealed(pass, salt, rounds, number, content)
	if f, e := Make(pass, salt, rounds, number, r); !same(f, want) || e != api.OK {
		t.Fatalf("Make of a salt of %d bytes, %d rounds, number %d, epochs %v = %v, %d; want %v", len(salt), rounds, number, r.Epochs(), f, e, want)
	}
}

// checkNoMake fails unless Make returns ErrArg, and nothing else.
func checkNoMake(t *testing.T, pass, salt []byte, rounds, number int, r *label.Ring) {
	t.Helper()
	if f, e := Make(pass, salt, rounds, number, r); !isZero(f) || e != api.ErrArg {
		t.Fatalf("Make of a salt of %d bytes, %d rounds, number %d, epochs %v = %v, %d", len(salt), rounds, number, r.Epochs(), f, e)
	}
}

// checkOpen fails unless Open returns a ring that has the same master keys as another one.
func checkOpen(t *testing.T, f File, pass []byte, want *label.Ring) {
	t.Helper()
	r, e := f.Open(pass)
	if r == nil || !sameRing(r, want) || e != api.OK {
		t.Fatalf("Open of %v = the epochs %v, %d; want the epochs %v", f, r.Epochs(), e, want.Epochs())
	}
}

// checkNoOpen fails unless Open returns an error, and nothing else.
func checkNoOpen(t *testing.T, f File, pass []byte, want api.Errno) {
	t.Helper()
	if r, e := f.Open(pass); r != nil || e != want {
		t.Fatalf("Open of a salt of %d bytes, %d rounds, number %d, a box of %d bytes = %v, %d; want the error %d alone", len(f.Salt), f.Rounds, f.Number, len(f.Box), r, e, want)
	}
}

// checkSealed fails unless Open returns what it must of a box that was sealed around a text with these epochs.
func checkSealed(t *testing.T, epochs ...int) {
	t.Helper()
	f := sealed([]byte("pass"), pattern(16), 1, 1, text(epochs...))
	before := 0
	for _, epoch := range epochs {
		if epoch <= before || epoch > 64 {
			checkNoOpen(t, f, []byte("pass"), api.ErrForm)
			return
		}
		before = epoch
	}
	checkOpen(t, f, []byte("pass"), ringWith(epochs...))
}

// wantSize returns what Size must return, as the chapter defines it.
func wantSize(b []byte) (int, api.Errno) {
	if len(b) < 33 {
		return 0, api.ErrShort
	}
	rounds, number, length := binary.BigEndian.Uint32(b[17:]), binary.BigEndian.Uint64(b[21:]), binary.BigEndian.Uint32(b[29:])
	if b[0] != 0x75 || rounds == 0 || rounds > 4096 || number == 0 || number > lastNumber || length <= 16 || length > 16+33*64 || length%33 != 16 {
		return 0, api.ErrForm
	}
	if len(b)-33 < int(length) {
		return 0, api.ErrShort
	}
	return 33 + int(length), api.OK
}

// want returns the encoding of a file as the chapter defines it.
func want(f File) []byte {
	return append(header(0x75, f.Salt, uint32(f.Rounds), uint64(f.Number), uint32(len(f.Box))), f.Box...)
}

// header returns the bytes ahead of a box.
func header(first byte, salt []byte, rounds uint32, number uint64, length uint32) []byte {
	b := binary.BigEndian.AppendUint32(slices.Concat([]byte{first}, salt), rounds)
	return binary.BigEndian.AppendUint32(binary.BigEndian.AppendUint64(b, number), length)
}

// sealed returns the file of a text, be it that of a ring or not, as the chapter defines it.
func sealed(pass, salt []byte, rounds, number int, text []byte) File {
	head := header(0x75, salt, uint32(rounds), uint64(number), uint32(len(text)+16))
	return File{Salt: salt, Rounds: rounds, Number: number, Box: must(box.Seal(keyOf(pass, salt, rounds), nonceOf(0, number), head, text))}
}

// keyOf returns the key of a file as the library computes it.
func keyOf(pass, salt []byte, rounds int) []byte {
	key, err := pbkdf2.Key(sha256.New, string(pass), salt, rounds, 32)
	if err != nil {
		panic(err)
	}
	return key
}

// nonceOf returns a nonce.
func nonceOf(epoch, n int) []byte {
	return binary.BigEndian.AppendUint64(binary.BigEndian.AppendUint32(nil, uint32(epoch)), uint64(n))
}

// text returns what would be the text of a ring with these epochs, if they were in order.
func text(epochs ...int) []byte {
	var b []byte
	for _, epoch := range epochs {
		b = slices.Concat(b, []byte{byte(epoch)}, master(epoch))
	}
	return b
}

// ringWith returns a ring on which the master keys of these epochs are put, in this order.
func ringWith(epochs ...int) *label.Ring {
	r := label.New()
	for _, epoch := range epochs {
		if e := r.Put(epoch, master(epoch)); e != api.OK {
			panic(fmt.Sprintf("Put(%d) = %d", epoch, e))
		}
	}
	return r
}

// upTo returns the epochs from 1 to n.
func upTo(n int) []int {
	var epochs []int
	for i := range n {
		epochs = append(epochs, i+1)
	}
	return epochs
}

// master returns the master key of an epoch.
func master(epoch int) []byte {
	sum := sha256.Sum256(binary.BigEndian.AppendUint64(nil, uint64(epoch)))
	return sum[:]
}

// same reports whether two files are alike.
func same(f, g File) bool {
	return bytes.Equal(f.Salt, g.Salt) && f.Rounds == g.Rounds && f.Number == g.Number && bytes.Equal(f.Box, g.Box)
}

// sameRing reports whether two rings have the same master keys.
func sameRing(r, s *label.Ring) bool {
	for epoch := -1; epoch <= 66; epoch++ {
		if !bytes.Equal(r.Master(epoch), s.Master(epoch)) {
			return false
		}
	}
	return slices.Equal(r.Epochs(), s.Epochs()) && r.Last() == s.Last()
}

// isZero reports whether a file is the zero File, without any memory.
func isZero(f File) bool {
	return cap(f.Salt) == 0 && f.Rounds == 0 && f.Number == 0 && cap(f.Box) == 0
}

// copyOf returns a file that shares no memory with another one.
func copyOf(f File) File {
	return File{Salt: bytes.Clone(f.Salt), Rounds: f.Rounds, Number: f.Number, Box: bytes.Clone(f.Box)}
}

// must returns bytes that there have to be.
func must(b []byte, e api.Errno) []byte {
	if len(b) == 0 || e != api.OK {
		panic(fmt.Sprintf("no bytes: %x, %d", b, e))
	}
	return b
}

// overwrite changes every byte of the parts.
func overwrite(parts ...[]byte) {
	for _, b := range parts {
		for i := range b {
			b[i] ^= 0xee
		}
	}
}

// unhex returns the bytes of hexadecimal digits.
func unhex(digits string) []byte {
	b, err := hex.DecodeString(digits)
	if err != nil {
		panic(err)
	}
	return b
}

// ones returns n bytes ff.
func ones(n int) []byte { return bytes.Repeat([]byte{0xff}, n) }

// pattern returns n bytes of which those that are next to one another differ.
func pattern(n int) []byte {
	b := make([]byte, n)
	for i := range b {
		b[i] = byte(i%251 + 1)
	}
	return b
}
