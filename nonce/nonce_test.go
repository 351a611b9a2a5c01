package nonce

import (
	"bytes"
	"encoding/binary"
	"encoding/hex"
	"fmt"
	"math"
	"math/rand/v2"
	"slices"
	"testing"

	"hypogeum/api"
)

const lastNumber = 1 << 40

// rightEpochs are epochs of counters.
var rightEpochs = []int{0, 1, 2, 31, 32, 63, 64}

// wrongEpochs are numbers that are no epochs of counters: some of them are right ones in their lowest byte, or in their lowest four.
var wrongEpochs = []int{-1, -2, -63, -64, -65, -255, -256, -1 << 31, -1 << 32, -1<<32 + 1, -1 << 40, math.MinInt + 1, math.MinInt,
	65, 66, 127, 128, 255, 256, 257, 320, 1<<16 + 1, 1 << 31, 1<<32 - 1, 1 << 32, 1<<32 + 1, 1<<32 + 64, 1 << 40, 1 << 53, math.MaxInt - 1, math.MaxInt}

// rightNumbers are last numbers of counters: those at both ends, those that leave so many as one Take may ask for, and those around which another byte is used.
var rightNumbers = []int{0, 1, 2, 5, 127, 128, 255, 256, 1<<16 - 1, 1 << 16, 1<<24 - 1, 1<<31 - 1, 1 << 31, 1<<32 - 2, 1<<32 - 1, 1 << 32, 0x0102030405, 1 << 39,
	lastNumber - 4098, lastNumber - 4097, lastNumber - 4096, lastNumber - 4095, lastNumber - 3, lastNumber - 2, lastNumber - 1, lastNumber}

// wrongNumbers are numbers that are no last numbers of counters.
var wrongNumbers = []int{-1, -2, -5, -256, -1 << 32, -1<<40 + 1, -1 << 40, -1<<40 - 1, math.MinInt + 1, math.MinInt,
	lastNumber + 1, lastNumber + 2, lastNumber + 4096, 1<<40 + 1<<32, 1 << 41, 1<<48 + 1, 1 << 53, 1<<56 + 5, 1 << 62, math.MaxInt - 4096, math.MaxInt - 1, math.MaxInt}

// rightTakes are how many numbers one Take may ask for, if so many are left.
var rightTakes = []int{0, 1, 2, 3, 100, 4095, 4096}

// wrongTakes are how many numbers no Take may ask for.
var wrongTakes = []int{-1, -2, -4096, -4097, -1 << 32, -1<<32 + 1, math.MinInt + 1, math.MinInt,
	4097, 4098, 8192, 1 << 16, 1 << 32, 1<<32 + 1, 1 << 40, 1<<40 + 1, math.MaxInt - 1, math.MaxInt}

// P10.1: Right

func TestRight(t *testing.T) {
	cases := []struct {
		epoch, last int
		want        bool
	}{
		{0, 0, true}, {0, 1, true}, {1, 0, true}, {1, 5, true}, {64, 0, true}, {64, 1 << 40, true}, {0, 1 << 40, true}, {64, 1<<40 - 1, true},
		{-1, 0, false}, {65, 0, false}, {0, -1, false}, {0, 1<<40 + 1, false}, {-1, -1, false}, {65, 1<<40 + 1, false}, {-1, 1<<40 + 1, false}, {65, -1, false},
		{-1, 1 << 40, false}, {65, 1 << 40, false}, {64, -1, false}, {64, 1<<40 + 1, false},
		{math.MaxInt, 0, false}, {0, math.MaxInt, false}, {math.MinInt, 0, false}, {0, math.MinInt, false}, {math.MaxInt, math.MaxInt, false}, {math.MinInt, math.MinInt, false},
		{256, 5, false}, {1<<32 + 1, 5, false},
	}
	for _, c := range cases {
		if got := (Counter{Epoch: c.epoch, Last: c.last}).Right(); got != c.want {
			t.Errorf("Right of epoch %d, last number %d = %v", c.epoch, c.last, got)
		}
	}
	if !(Counter{}).Right() {
		t.Error("the zero Counter is not valid")
	}
}

func TestRightOfAllCombinations(t *testing.T) {
	eachCounter(func(c Counter, right bool) {
		if c.Right() != right {
			t.Errorf("Right of %v = %v", c, !right)
		}
	})
	for epoch := -300; epoch <= 600; epoch++ {
		for _, last := range []int{0, 5, lastNumber} {
			if got, want := (Counter{Epoch: epoch, Last: last}).Right(), epoch >= 0 && epoch <= 64; got != want {
				t.Errorf("Right of epoch %d, last number %d = %v", epoch, last, got)
			}
		}
	}
	for d := -300; d <= 300; d++ {
		if got := (Counter{Epoch: 1, Last: d}).Right(); got != (d >= 0) {
			t.Errorf("Right of last number %d = %v", d, got)
		}
		if got := (Counter{Epoch: 1, Last: lastNumber + d}).Right(); got != (d <= 0) {
			t.Errorf("Right of last number 2^40 + %d = %v", d, got)
		}
	}
}

// P10.1: Take

func TestExample(t *testing.T) {
	nonces, after, e := Counter{Epoch: 1, Last: 5}.Take(2)
	if len(nonces) != 2 || hex.EncodeToString(nonces[0]) != "000000010000000000000006" || hex.EncodeToString(nonces[1]) != "000000010000000000000007" {
		t.Errorf("Take(2) = %x", nonces)
	}
	if after != (Counter{Epoch: 1, Last: 7}) || e != api.OK {
		t.Errorf("the counter after Take(2) = %v, %d", after, e)
	}
}

func TestTakeOfAllCombinations(t *testing.T) {
	eachCounter(func(c Counter, right bool) {
		if right != isRight(c) {
			t.Fatalf("%v is valid: %v", c, right)
		}
		for _, n := range slices.Concat(rightTakes, wrongTakes) {
			checkTakeTwice(t, c, n)
		}
	})
}

func TestTakeAtBothEndsOfItsRange(t *testing.T) {
	for n := -300; n <= 4500; n++ {
		if n > 300 && n < 4000 && n%37 != 0 {
			continue
		}
		take(t, Counter{Epoch: 7, Last: 250}, n)
		take(t, Counter{Epoch: 64, Last: lastNumber - n}, n)
	}
}

func TestTakeOfWhatIsLeft(t *testing.T) {
	for _, epoch := range rightEpochs {
		for _, left := range []int{0, 1, 2, 3, 7, 100, 255, 4094, 4095, 4096, 4097} {
			c := Counter{Epoch: epoch, Last: lastNumber - left}
			for _, n := range []int{0, left - 1, left, left + 1} {
				checkTakeTwice(t, c, n)
			}
			end, e := take(t, c, min(left, 4096))
			if want := (Counter{Epoch: epoch, Last: lastNumber - max(left-4096, 0)}); end != want || e != api.OK {
				t.Errorf("after Take of %d at %v: %v, %d; want %v", left, c, end, e, want)
			}
		}
	}
}

func TestTakeWhereNoneIsLeft(t *testing.T) {
	for _, epoch := range rightEpochs {
		c := Counter{Epoch: epoch, Last: lastNumber}
		for range 3 {
			nonces, after, e := c.Take(0)
			if len(nonces) != 0 || after != c || e != api.OK {
				t.Fatalf("Take(0) at %v = %x, %v, %d", c, nonces, after, e)
			}
			checkNoTake(t, c, 1, api.ErrCap)
			checkNoTake(t, c, 4096, api.ErrCap)
			c = after
		}
	}
}

func TestErrArgIsAheadOfErrCap(t *testing.T) {
	cases := []struct {
		c    Counter
		n    int
		want api.Errno
	}{
		{Counter{1, lastNumber}, 1, api.ErrCap}, {Counter{1, lastNumber}, 4096, api.ErrCap}, {Counter{1, lastNumber}, 4097, api.ErrArg}, {Counter{1, lastNumber}, -1, api.ErrArg},
		{Counter{1, lastNumber}, math.MaxInt, api.ErrArg}, {Counter{1, lastNumber}, math.MinInt, api.ErrArg}, {Counter{65, lastNumber}, 1, api.ErrArg}, {Counter{-1, lastNumber}, 1, api.ErrArg},
		{Counter{1, lastNumber + 1}, 1, api.ErrArg}, {Counter{1, lastNumber + 1}, 0, api.ErrArg}, {Counter{1, math.MaxInt}, 1, api.ErrArg}, {Counter{1, math.MaxInt}, 0, api.ErrArg},
		{Counter{1, -1}, 1, api.ErrArg}, {Counter{1, -1}, 0, api.ErrArg}, {Counter{1, math.MinInt}, 1, api.ErrArg}, {Counter{65, 0}, 0, api.ErrArg}, {Counter{-1, 0}, 0, api.ErrArg},
		{Counter{1, lastNumber - 4095}, 4096, api.ErrCap}, {Counter{1, lastNumber - 4096}, 4097, api.ErrArg}, {Counter{1, lastNumber - 4095}, 4097, api.ErrArg},
		{Counter{0, lastNumber - 1}, 2, api.ErrCap}, {Counter{64, lastNumber - 1}, 2, api.ErrCap},
	}
	for _, c := range cases {
		checkNoTake(t, c.c, c.n, c.want)
	}
}

func TestTakeOfTheZeroCounter(t *testing.T) {
	var c Counter
	for _, n := range slices.Concat(rightTakes, wrongTakes) {
		checkTakeTwice(t, c, n)
	}
	nonces, after, e := c.Take(1)
	if len(nonces) != 1 || !bytes.Equal(nonces[0], []byte{11: 1}) || after != (Counter{Last: 1}) || e != api.OK {
		t.Errorf("Take(1) = %x, %v, %d", nonces, after, e)
	}
}

func TestTakeUsesAllBytesOfANumber(t *testing.T) {
	for _, v := range []struct {
		c    Counter
		want string
	}{
		{Counter{64, 1<<40 - 1}, "000000400000010000000000"},
		{Counter{63, 1<<40 - 2}, "0000003f000000ffffffffff"},
		{Counter{2, 0x0102030404}, "000000020000000102030405"},
		{Counter{0, 255}, "000000000000000000000100"},
		{Counter{0, 1<<32 - 1}, "000000000000000100000000"},
		{Counter{1, 1<<31 - 1}, "000000010000000080000000"},
	} {
		nonces, _, e := v.c.Take(1)
		if len(nonces) != 1 || hex.EncodeToString(nonces[0]) != v.want || e != api.OK {
			t.Errorf("Take(1) at %v = %x, %d; want %s", v.c, nonces, e, v.want)
		}
	}
}

// P10.1: Turn

func TestTurn(t *testing.T) {
	for _, c := range []struct {
		c     Counter
		epoch int
		want  Counter
		e     api.Errno
	}{
		{Counter{1, 5}, 2, Counter{2, 5}, api.OK}, {Counter{1, 5}, 3, Counter{3, 5}, api.OK}, {Counter{1, 5}, 64, Counter{64, 5}, api.OK}, {Counter{63, 5}, 64, Counter{64, 5}, api.OK},
		{Counter{}, 1, Counter{1, 0}, api.OK}, {Counter{}, 64, Counter{64, 0}, api.OK}, {Counter{0, lastNumber}, 1, Counter{1, lastNumber}, api.OK},
		{Counter{1, 5}, 1, Counter{}, api.ErrArg}, {Counter{1, 5}, 0, Counter{}, api.ErrArg}, {Counter{1, 5}, -1, Counter{}, api.ErrArg}, {Counter{1, 5}, 65, Counter{}, api.ErrArg},
		{Counter{64, 5}, 64, Counter{}, api.ErrArg}, {Counter{64, 5}, 65, Counter{}, api.ErrArg}, {Counter{64, 5}, 63, Counter{}, api.ErrArg}, {Counter{}, 0, Counter{}, api.ErrArg},
		{Counter{-1, 5}, 0, Counter{}, api.ErrArg}, {Counter{-1, 5}, 1, Counter{}, api.ErrArg}, {Counter{65, 5}, 66, Counter{}, api.ErrArg}, {Counter{65, 5}, 64, Counter{}, api.ErrArg},
		{Counter{1, -1}, 2, Counter{}, api.ErrArg}, {Counter{1, lastNumber + 1}, 2, Counter{}, api.ErrArg},
		{Counter{1, 5}, math.MaxInt, Counter{}, api.ErrArg}, {Counter{1, 5}, math.MinInt, Counter{}, api.ErrArg}, {Counter{1, 5}, 1<<32 + 2, Counter{}, api.ErrArg}, {Counter{1, 5}, 258, Counter{}, api.ErrArg},
	} {
		if got, e := c.c.Turn(c.epoch); got != c.want || e != c.e {
			t.Errorf("Turn(%d) of %v = %v, %d; want %v, %d", c.epoch, c.c, got, e, c.want, c.e)
		}
	}
}

func TestTurnOfAllCombinations(t *testing.T) {
	eachCounter(func(c Counter, right bool) {
		near := []int{c.Epoch, c.Epoch - 1, c.Epoch + 1, c.Epoch + 2}
		for _, epoch := range slices.Concat(rightEpochs, wrongEpochs, near) {
			checkTurn(t, c, epoch)
		}
	})
}

func TestTurnFromEveryEpochToEveryEpoch(t *testing.T) {
	for from := -70; from <= 140; from++ {
		for to := -70; to <= 140; to++ {
			checkTurn(t, Counter{Epoch: from, Last: 5}, to)
		}
	}
}

// P10.2: Of

func TestOf(t *testing.T) {
	for _, v := range []struct {
		epoch, n int
		want     string
	}{
		{0, 0, "000000000000000000000000"}, {0, 1, "000000000000000000000001"}, {1, 0, "000000010000000000000000"}, {1, 6, "000000010000000000000006"},
		{64, 1 << 40, "000000400000010000000000"}, {64, 1<<40 - 1, "00000040000000ffffffffff"}, {2, 0x0102030405, "000000020000000102030405"}, {3, 1 << 32, "000000030000000100000000"},
		{17, 0xfedcba9876, "00000011000000fedcba9876"},
	} {
		if got, e := Of(v.epoch, v.n); hex.EncodeToString(got) != v.want || e != api.OK {
			t.Errorf("Of(%d, %d) = %x, %d; want %s", v.epoch, v.n, got, e, v.want)
		}
	}
}

func TestOfAllCombinations(t *testing.T) {
	eachCounter(func(c Counter, right bool) {
		checkOf(t, c.Epoch, c.Last)
	})
}

func TestOfAtBothEndsOfItsRanges(t *testing.T) {
	for epoch := -300; epoch <= 600; epoch++ {
		for _, n := range []int{-1, 0, 5, lastNumber, lastNumber + 1} {
			checkOf(t, epoch, n)
		}
	}
	for d := -300; d <= 300; d++ {
		for _, epoch := range []int{-1, 0, 1, 64, 65} {
			checkOf(t, epoch, d)
			checkOf(t, epoch, lastNumber+d)
		}
	}
}

// P10.2: Read

func TestRead(t *testing.T) {
	for _, v := range []struct {
		b        string
		epoch, n int
		want     api.Errno
	}{
		{"000000000000000000000000", 0, 0, api.OK}, {"000000010000000000000006", 1, 6, api.OK}, {"000000400000010000000000", 64, 1 << 40, api.OK},
		{"00000040000000ffffffffff", 64, 1<<40 - 1, api.OK}, {"000000020000000102030405", 2, 0x0102030405, api.OK}, {"000000000000000080000000", 0, 1 << 31, api.OK},
		{"000000410000000000000006", 0, 0, api.ErrForm}, {"000000ff0000000000000006", 0, 0, api.ErrForm}, {"000001000000000000000006", 0, 0, api.ErrForm}, {"000100000000000000000006", 0, 0, api.ErrForm},
		{"010000000000000000000006", 0, 0, api.ErrForm}, {"800000010000000000000006", 0, 0, api.ErrForm}, {"ffffffff0000000000000006", 0, 0, api.ErrForm},
		{"000000010000010000000001", 0, 0, api.ErrForm}, {"000000010000020000000000", 0, 0, api.ErrForm}, {"000000010001000000000006", 0, 0, api.ErrForm}, {"000000010100000000000006", 0, 0, api.ErrForm},
		{"000000017fffffffffffffff", 0, 0, api.ErrForm}, {"000000018000000000000000", 0, 0, api.ErrForm}, {"000000018000000000000006", 0, 0, api.ErrForm}, {"00000001ffffffffffffffff", 0, 0, api.ErrForm},
		{"ffffffffffffffffffffffff", 0, 0, api.ErrForm}, {"0000000100000000000006", 0, 0, api.ErrForm}, {"00000001000000000000000006", 0, 0, api.ErrForm}, {"", 0, 0, api.ErrForm},
	} {
		if epoch, n, e := Read(unhex(v.b)); epoch != v.epoch || n != v.n || e != v.want {
			t.Errorf("Read(%s) = %d, %d, %d; want %d, %d, %d", v.b, epoch, n, e, v.epoch, v.n, v.want)
		}
	}
}

func TestReadOfEveryLength(t *testing.T) {
	checkRead(t, nil)
	for _, b := range [][]byte{make([]byte, 1<<16), append(unhex("000000010000000000000006"), make([]byte, 1<<16)...), bytes.Repeat([]byte{0xff}, 1<<16)} {
		for n := range 300 {
			checkRead(t, b[:n:n])
			// The spare capacity does not count.
			checkRead(t, b[:n])
		}
		checkRead(t, b)
		checkRead(t, b[:1<<16-1])
		checkRead(t, b[:1<<8+12])
	}
}

func TestReadOfEveryEpochAndNumber(t *testing.T) {
	epochs := []uint32{0, 1, 2, 63, 64, 65, 66, 127, 128, 255, 256, 257, 320, 1 << 16, 1<<16 + 1, 1 << 24, 1<<31 - 1, 1 << 31, 1<<31 + 1, math.MaxUint32 - 1, math.MaxUint32}
	numbers := []uint64{0, 1, 2, 255, 256, 1<<32 - 1, 1 << 32, 1<<40 - 1, 1 << 40, 1<<40 + 1, 1<<40 + 1<<32, 1 << 41, 1 << 48, 1<<48 + 5, 1 << 53, 1 << 56, 1 << 62, 1<<63 - 1, 1 << 63, 1<<63 + 1, 1<<63 + 1<<40, math.MaxUint64 - 1, math.MaxUint64}
	for _, epoch := range epochs {
		for _, n := range numbers {
			checkRead(t, wantNonce(epoch, n))
		}
	}
	for epoch := range uint32(70000) {
		checkRead(t, wantNonce(epoch, 5))
	}
	for d := range uint64(600) {
		checkRead(t, wantNonce(1, d))
		checkRead(t, wantNonce(1, lastNumber-300+d))
	}
}

func TestReadOfEveryByteAtEveryPlace(t *testing.T) {
	for _, first := range [][]byte{make([]byte, 12), wantNonce(1, 6), wantNonce(64, 1<<40), wantNonce(64, 1<<40-1), bytes.Repeat([]byte{0xff}, 12)} {
		for at := range first {
			for c := range 256 {
				b := bytes.Clone(first)
				b[at] = byte(c)
				checkRead(t, b)
			}
		}
	}
}

// P10.2: Bytes

func TestBytes(t *testing.T) {
	for _, v := range []struct {
		c    Counter
		want string
	}{
		{Counter{}, "000000000000000000000000"}, {Counter{1, 5}, "000000010000000000000005"}, {Counter{64, 1 << 40}, "000000400000010000000000"}, {Counter{2, 0x0102030405}, "000000020000000102030405"},
		{Counter{-1, 5}, ""}, {Counter{65, 5}, ""}, {Counter{1, -1}, ""}, {Counter{1, 1<<40 + 1}, ""}, {Counter{65, -1}, ""}, {Counter{math.MaxInt, math.MaxInt}, ""}, {Counter{math.MinInt, math.MinInt}, ""},
	} {
		if got := v.c.Bytes(); hex.EncodeToString(got) != v.want {
			t.Errorf("Bytes of %v = %x; want %s", v.c, got, v.want)
		}
	}
}

func TestBytesOfAllCombinations(t *testing.T) {
	eachCounter(func(c Counter, right bool) {
		want := []byte{}
		if right {
			want = wantNonce(uint32(c.Epoch), uint64(c.Last))
		}
		if got := c.Bytes(); !bytes.Equal(got, want) || !right && cap(got) != 0 {
			t.Errorf("Bytes of %v = %x; want %x", c, got, want)
		}
	})
}

// P10.3

func TestNumbersIncrease(t *testing.T) {
	for seed := range uint64(120) {
		r := rand.New(rand.NewPCG(seed, 10))
		c := Counter{Epoch: r.IntN(3), Last: r.IntN(3)}
		if seed%3 == 0 {
			c.Last = lastNumber - r.IntN(9000)
		}
		checkSequence(t, c, r)
	}
}

func TestNumbersIncreaseThroughAllEpochs(t *testing.T) {
	for _, n := range []int{0, 1, 2, 63, 4096} {
		var c Counter
		for epoch := 1; epoch <= 64; epoch++ {
			c = checkNext(t, c, n)
			c = checkNext(t, c, 1)
			c = turn(t, c, epoch)
		}
		if want := (Counter{Epoch: 64, Last: 64 * (n + 1)}); c != want {
			t.Errorf("after 64 times Take(%d), Take(1) and Turn: %v; want %v", n, c, want)
		}
	}
}

func TestNumbersEndWhateverEpochsFollow(t *testing.T) {
	c := turn(t, Counter{Epoch: 1, Last: lastNumber - 2}, 2)
	c = turn(t, checkNext(t, c, 1), 9)
	c = turn(t, checkNext(t, c, 1), 10)
	// Later epochs have no numbers of their own.
	checkNoTake(t, c, 1, api.ErrCap)
	c = turn(t, checkNext(t, c, 0), 64)
	checkNoTake(t, c, 1, api.ErrCap)
	if c != (Counter{Epoch: 64, Last: lastNumber}) {
		t.Errorf("the counter is %v at last", c)
	}
}

func TestErrorsUseUpNothing(t *testing.T) {
	c := Counter{Epoch: 1, Last: 5}
	for range 3 {
		c.Take(4097)
		c.Take(-1)
		c.Turn(1)
		c.Turn(65)
		Counter{Epoch: 1, Last: lastNumber}.Take(1)
		take(t, c, 3)
	}
	if c != (Counter{Epoch: 1, Last: 5}) {
		t.Errorf("the counter is %v", c)
	}
}

// P10.4

func TestReadIsInverseToOf(t *testing.T) {
	for epoch := range 65 {
		for _, n := range rightNumbers {
			b, e := Of(epoch, n)
			gotEpoch, gotN, e2 := Read(b)
			if gotEpoch != epoch || gotN != n || e != api.OK || e2 != api.OK {
				t.Errorf("Read(Of(%d, %d)) = %d, %d, %d", epoch, n, gotEpoch, gotN, e2)
			}
		}
	}
	r := rand.New(rand.NewPCG(4, 10))
	for range 20000 {
		epoch, n := r.IntN(65), r.IntN(lastNumber+1)>>r.IntN(40)
		b, _ := Of(epoch, n)
		if gotEpoch, gotN, e := Read(b); gotEpoch != epoch || gotN != n || e != api.OK {
			t.Errorf("Read(Of(%d, %d)) = %d, %d, %d", epoch, n, gotEpoch, gotN, e)
		}
	}
}

func TestOfIsInverseToRead(t *testing.T) {
	r := rand.New(rand.NewPCG(5, 10))
	read := 0
	for range 50000 {
		b := make([]byte, 12)
		for _, at := range []int{3, 6, 7, 8, 9, 10, 11, r.IntN(12)} {
			b[at] = byte(r.Uint32() >> r.IntN(9))
		}
		b[3] &= 0x7f
		b[6] &= b[7]
		epoch, n, e := Read(b)
		checkRead(t, b)
		if e != api.OK {
			continue
		}
		read++
		if again, e := Of(epoch, n); !bytes.Equal(again, b) || e != api.OK {
			t.Errorf("Of(Read(%x)) = %x, %d", b, again, e)
		}
	}
	if read < 1000 {
		t.Errorf("only %d of the bytes are nonces", read)
	}
}

func TestTheEncodingIsUnique(t *testing.T) {
	seen := map[string]string{}
	for epoch := range 65 {
		for _, n := range rightNumbers {
			what := fmt.Sprintf("%d, %d", epoch, n)
			b, e := Of(epoch, n)
			if before, found := seen[string(b)]; found || e != api.OK {
				t.Errorf("the nonces of %s and of %s are alike, or there is none: %d", before, what, e)
			}
			seen[string(b)] = what
		}
	}
	for _, b := range [][]byte{make([]byte, 12), wantNonce(1, 6), wantNonce(64, 1<<40), wantNonce(63, 1<<40-1)} {
		epoch, n, _ := Read(b)
		for bit := range 96 {
			other := bytes.Clone(b)
			other[bit/8] ^= 1 << (bit % 8)
			if otherEpoch, otherN, e := Read(other); e == api.OK && otherEpoch == epoch && otherN == n {
				t.Errorf("%x and %x are both the nonce of %d, %d", b, other, epoch, n)
			}
		}
	}
}

func TestTakeBytesAndOfAreAlike(t *testing.T) {
	for _, c := range []Counter{{}, {1, 5}, {64, lastNumber - 300}, {63, 1<<32 - 150}} {
		nonces, after, e := c.Take(300)
		if len(nonces) != 300 || e != api.OK {
			t.Fatalf("Take(300) of %v: %d nonces, %d", c, len(nonces), e)
		}
		for i, nonce := range nonces {
			of, _ := Of(c.Epoch, c.Last+1+i)
			if b := (Counter{Epoch: c.Epoch, Last: c.Last + 1 + i}).Bytes(); !bytes.Equal(nonce, of) || !bytes.Equal(nonce, b) {
				t.Errorf("nonce %d behind %v: %x, %x by Of, %x by Bytes", i, c, nonce, of, b)
			}
		}
		if b := after.Bytes(); !bytes.Equal(b, nonces[299]) {
			t.Errorf("Bytes of the counter after them = %x; want %x", b, nonces[299])
		}
	}
}

// DOC.md, 'Memory'

func TestWhatIsReadIsLeftAsItWas(t *testing.T) {
	for _, first := range [][]byte{wantNonce(1, 6), wantNonce(65, 6), wantNonce(1, 1<<40+1)} {
		for n := range 30 {
			room := append(bytes.Clone(first), pattern(40)...)
			before := bytes.Clone(room)
			epoch, number, e := Read(room[:n])
			if !bytes.Equal(room, before) {
				t.Fatalf("%d bytes or their spare capacity are changed", n)
			}
			overwrite(room)
			if again, againN, e2 := Read(before[:n]); again != epoch || againN != number || e2 != e {
				t.Errorf("Read of %d bytes, behind others that were written over = %d, %d, %d; before, %d, %d, %d", n, again, againN, e2, epoch, number, e)
			}
		}
	}
}

func TestWritingOverAllNoncesButOneChangesNothing(t *testing.T) {
	c := Counter{Epoch: 1, Last: 250}
	for _, n := range []int{1, 2, 3, 17, 300, 4096} {
		want := wantAfter(c, n)
		for _, i := range []int{0, n / 2, n - 1} {
			nonces, _, _ := c.Take(n)
			others, _, _ := c.Take(n)
			for j := range nonces {
				if j != i {
					overwrite(nonces[j][:cap(nonces[j])])
					_ = append(nonces[j], pattern(20)...)
				}
			}
			if !bytes.Equal(nonces[i], want[i]) {
				t.Errorf("nonce %d of %d changes with the others: %x", i, n, nonces[i])
			}
			if !slices.EqualFunc(others, want, bytes.Equal) {
				t.Errorf("two results of Take(%d) share memory", n)
			}
		}
		take(t, c, n)
	}
}

func TestWritingOverOneNonceChangesNoOther(t *testing.T) {
	c, n := Counter{Epoch: 64, Last: lastNumber - 40}, 40
	for i := range n {
		nonces, _, _ := c.Take(n)
		overwrite(nonces[i][:cap(nonces[i])])
		_ = append(nonces[i], pattern(100)...)
		_ = append(nonces[i][:0], pattern(cap(nonces[i]))...)
		for j, want := range wantAfter(c, n) {
			if j != i && !bytes.Equal(nonces[j], want) {
				t.Fatalf("nonce %d changes with nonce %d: %x", j, i, nonces[j])
			}
		}
	}
}

func TestListsAreInMemoryOfTheirOwn(t *testing.T) {
	c := Counter{Epoch: 1, Last: 5}
	for _, n := range []int{0, 1, 2, 5, 4096} {
		a, _, _ := c.Take(n)
		b, _, _ := c.Take(n)
		for i := range a[:cap(a)] {
			a[:cap(a)][i] = pattern(12)
		}
		_ = append(a, pattern(12))
		if !slices.EqualFunc(b, wantAfter(c, n), bytes.Equal) {
			t.Errorf("two lists of Take(%d) share memory", n)
		}
		take(t, c, n)
	}
}

func TestResultsAreInMemoryOfTheirOwn(t *testing.T) {
	c := Counter{Epoch: 1, Last: 5}
	results := []func() []byte{
		func() []byte { return must(Of(1, 5)) },
		func() []byte { return must(Of(0, 0)) },
		func() []byte { return c.Bytes() },
		func() []byte { return (Counter{}).Bytes() },
		func() []byte { nonces, _, e := c.Take(3); return must(nonces[1], e) },
		func() []byte { nonces, _, e := c.Take(1); return must(nonces[0], e) },
	}
	for i, first := range results {
		for j, second := range results {
			want := bytes.Clone(second())
			a, b := first(), second()
			overwrite(a[:cap(a)])
			if !bytes.Equal(b, want) {
				t.Errorf("results %d and %d share memory", i, j)
			}
			if again := second(); !bytes.Equal(again, want) {
				t.Errorf("result %d changes to %x when result %d is written over", j, again, i)
			}
		}
	}
}

// eachCounter calls f with counters of all combinations of epochs and last numbers, and whether they are valid.
func eachCounter(f func(c Counter, right bool)) {
	for i, epoch := range slices.Concat(rightEpochs, wrongEpochs) {
		for j, last := range slices.Concat(rightNumbers, wrongNumbers) {
			f(Counter{Epoch: epoch, Last: last}, i < len(rightEpochs) && j < len(rightNumbers))
		}
	}
}

// isRight reports whether a counter is valid, as the chapter defines it.
func isRight(c Counter) bool {
	return 0 <= c.Epoch && c.Epoch <= 64 && 0 <= c.Last && c.Last <= lastNumber
}

// checkTakeTwice fails unless Take returns what it must, and so does Take on the counter after it.
func checkTakeTwice(t *testing.T, c Counter, n int) {
	t.Helper()
	if after, e := take(t, c, n); e == api.OK {
		take(t, after, min(n, 3))
		take(t, after, 4097)
	}
}

// take fails unless Take returns what it must, and returns the counter after it.
func take(t *testing.T, c Counter, n int) (Counter, api.Errno) {
	t.Helper()
	switch {
	case !isRight(c) || n < 0 || n > 4096:
		checkNoTake(t, c, n, api.ErrArg)
		return Counter{}, api.ErrArg
	case lastNumber-c.Last < n:
		checkNoTake(t, c, n, api.ErrCap)
		return Counter{}, api.ErrCap
	}
	nonces, after, e := c.Take(n)
	if !slices.EqualFunc(nonces, wantAfter(c, n), bytes.Equal) || after.Epoch != c.Epoch || after.Last != c.Last+n || e != api.OK {
		t.Fatalf("Take(%d) of %v: %d nonces, %x, %v, %d", n, c, len(nonces), nonces[:min(len(nonces), 3)], after, e)
	}
	return after, e
}

// checkNoTake fails unless Take returns an error, and nothing else.
func checkNoTake(t *testing.T, c Counter, n int, want api.Errno) {
	t.Helper()
	nonces, after, e := c.Take(n)
	if len(nonces) != 0 || cap(nonces) != 0 || after != (Counter{}) || e != want {
		t.Errorf("Take(%d) of %v: %d nonces, %v, %d; want the error %d alone", n, c, len(nonces), after, e, want)
	}
}

// checkTurn fails unless Turn returns what it must.
func checkTurn(t *testing.T, c Counter, epoch int) {
	t.Helper()
	want, wantErr := Counter{Epoch: epoch, Last: c.Last}, api.OK
	if !isRight(c) || epoch <= c.Epoch || epoch > 64 {
		want, wantErr = Counter{}, api.ErrArg
	}
	if got, e := c.Turn(epoch); got != want || e != wantErr {
		t.Errorf("Turn(%d) of %v = %v, %d; want %v, %d", epoch, c, got, e, want, wantErr)
	}
}

// checkOf fails unless Of returns what it must.
func checkOf(t *testing.T, epoch, n int) {
	t.Helper()
	want, wantErr := []byte{}, api.ErrArg
	if isRight(Counter{Epoch: epoch, Last: n}) {
		want, wantErr = wantNonce(uint32(epoch), uint64(n)), api.OK
	}
	if got, e := Of(epoch, n); !bytes.Equal(got, want) || e != wantErr || e != api.OK && cap(got) != 0 {
		t.Errorf("Of(%d, %d) = %x, %d; want %x, %d", epoch, n, got, e, want, wantErr)
	}
}

// checkRead fails unless Read returns what it must.
func checkRead(t *testing.T, b []byte) {
	t.Helper()
	epoch, n, wantErr := uint32(0), uint64(0), api.ErrForm
	if len(b) == 12 {
		epoch, n = binary.BigEndian.Uint32(b), binary.BigEndian.Uint64(b[4:])
		if epoch <= 64 && n <= lastNumber {
			wantErr = api.OK
		}
	}
	if wantErr != api.OK {
		epoch, n = 0, 0
	}
	gotEpoch, gotN, e := Read(b)
	if gotEpoch != int(epoch) || gotN != int(n) || e != wantErr {
		t.Errorf("Read of %d bytes, %x = %d, %d, %d; want %d, %d, %d", len(b), b[:min(len(b), 20)], gotEpoch, gotN, e, epoch, n, wantErr)
	}
}

// checkNext fails unless Take returns n nonces of c's epoch whose numbers increase from its last one on; it returns the counter after them.
func checkNext(t *testing.T, c Counter, n int) Counter {
	t.Helper()
	nonces, after, e := c.Take(n)
	if len(nonces) != n || e != api.OK {
		t.Fatalf("Take(%d) of %v: %d nonces, %d", n, c, len(nonces), e)
	}
	before := c.Last
	for _, nonce := range nonces {
		epoch, number, e := Read(nonce)
		if epoch != c.Epoch || number <= before || e != api.OK {
			t.Fatalf("the nonce %x of %v follows the number %d", nonce, c, before)
		}
		before = number
	}
	return after
}

// turn returns what Turn returns, which must be a counter.
func turn(t *testing.T, c Counter, epoch int) Counter {
	t.Helper()
	next, e := c.Turn(epoch)
	if e != api.OK {
		t.Fatalf("Turn(%d) of %v = %v, %d", epoch, c, next, e)
	}
	return next
}

// checkSequence fails unless the numbers of all nonces increase that a sequence of Take and Turn, chosen by r, returns.
func checkSequence(t *testing.T, c Counter, r *rand.Rand) {
	t.Helper()
	before, taken, seen := c.Last, 0, map[string]bool{}
	for range 40 {
		if r.IntN(3) == 0 {
			if next, e := c.Turn(c.Epoch + r.IntN(6) - 1); e == api.OK {
				c = next
			}
			continue
		}
		nonces, next, e := c.Take([]int{0, 1, 2, r.IntN(50), r.IntN(4200), -1}[r.IntN(6)])
		if e != api.OK {
			continue
		}
		for _, nonce := range nonces {
			number := int(binary.BigEndian.Uint64(nonce[4:]))
			if number <= before || seen[string(nonce[4:])] || int(binary.BigEndian.Uint32(nonce)) != c.Epoch {
				t.Fatalf("the nonce %x, in epoch %d, follows the number %d", nonce, c.Epoch, before)
			}
			before, seen[string(nonce[4:])] = number, true
		}
		taken += len(nonces)
		c = next
	}
	if taken != len(seen) || c.Last != before {
		t.Errorf("%d nonces are taken, of %d numbers; the last one is %d, that of the counter %d", taken, len(seen), before, c.Last)
	}
}

// wantAfter returns the nonces for the next n numbers of a counter.
func wantAfter(c Counter, n int) [][]byte {
	nonces := [][]byte{}
	for i := range n {
		nonces = append(nonces, wantNonce(uint32(c.Epoch), uint64(c.Last+i+1)))
	}
	return nonces
}

// wantNonce returns a nonce as the chapter defines it.
func wantNonce(epoch uint32, n uint64) []byte {
	return binary.BigEndian.AppendUint64(binary.BigEndian.AppendUint32(nil, epoch), n)
}

// must returns a nonce that there has to be.
func must(nonce []byte, e api.Errno) []byte {
	if len(nonce) != 12 || e != api.OK {
		panic(fmt.Sprintf("no nonce: %x, %d", nonce, e))
	}
	return nonce
}

// overwrite changes every byte of the parts.
func overwrite(parts ...[]byte) {
	for _, b := range parts {
		for i := range b {
			b[i] ^= 0xee
		}
	}
}

// unhex returns the bytes of hexadecimal digits.
func unhex(digits string) []byte {
	b, err := hex.DecodeString(digits)
	if err != nil {
		panic(err)
	}
	return b
}

// pattern returns n bytes of which those that are next to one another differ.
func pattern(n int) []byte {
	b := make([]byte, n)
	for i := range b {
		b[i] = byte(i%251 + 1)
	}
	return b
}
