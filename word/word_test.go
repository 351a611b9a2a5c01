package word

import (
	"bytes"
	"math"
	"testing"

	"hypogeum/api"
)

var someWords = []uint32{0, 1, 2, 0xff, 0x100, 0x01020304, 0x12345678, 0x7fffffff, 0x80000000, 0x80000001, 0xdeadbeef, 0xfffffffe, 0xffffffff}

// P1.1

func TestLoad(t *testing.T) {
	cases := []struct {
		b         []byte
		high, low uint32
	}{
		{[]byte{1, 2, 3, 4}, 0x01020304, 0x04030201},
		{[]byte{0, 0, 0, 0}, 0, 0},
		{[]byte{0xff, 0xff, 0xff, 0xff}, 0xffffffff, 0xffffffff},
		{[]byte{0x80, 0, 0, 0}, 0x80000000, 0x80},
		{[]byte{0, 0x80, 0, 0}, 0x00800000, 0x8000},
		{[]byte{0, 0, 0x80, 0}, 0x8000, 0x00800000},
		{[]byte{0, 0, 0, 0x80}, 0x80, 0x80000000},
	}
	for _, c := range cases {
		if w, e := Load(c.b, false); w != c.high || e != api.OK {
			t.Errorf("Load(%v, false) = %08x, %d; want %08x", c.b, w, e, c.high)
		}
		if w, e := Load(c.b, true); w != c.low || e != api.OK {
			t.Errorf("Load(%v, true) = %08x, %d; want %08x", c.b, w, e, c.low)
		}
	}
}

func TestLoadRefusesOtherLengths(t *testing.T) {
	for _, n := range []int{0, 1, 2, 3, 5, 6, 7, 8, 9, 4096, 1 << 16} {
		for _, low := range []bool{false, true} {
			// Room for four bytes behind the length must not help.
			b := bytes.Repeat([]byte{0xff}, n+8)[:n]
			if w, e := Load(b, low); w != 0 || e != api.ErrArg {
				t.Errorf("Load of %d bytes, low %v = %08x, %d", n, low, w, e)
			}
		}
	}
	if w, e := Load(nil, false); w != 0 || e != api.ErrArg {
		t.Errorf("Load(nil) = %08x, %d", w, e)
	}
}

func TestStore(t *testing.T) {
	cases := []struct {
		w         uint32
		high, low []byte
	}{
		{0x01020304, []byte{1, 2, 3, 4}, []byte{4, 3, 2, 1}},
		{0, []byte{0, 0, 0, 0}, []byte{0, 0, 0, 0}},
		{1, []byte{0, 0, 0, 1}, []byte{1, 0, 0, 0}},
		{0x80ff0000, []byte{0x80, 0xff, 0, 0}, []byte{0, 0, 0xff, 0x80}},
		{0xffffffff, []byte{0xff, 0xff, 0xff, 0xff}, []byte{0xff, 0xff, 0xff, 0xff}},
	}
	for _, c := range cases {
		if b := Store(c.w, false); !bytes.Equal(b, c.high) {
			t.Errorf("Store(%08x, false) = %v; want %v", c.w, b, c.high)
		}
		if b := Store(c.w, true); !bytes.Equal(b, c.low) {
			t.Errorf("Store(%08x, true) = %v; want %v", c.w, b, c.low)
		}
	}
}

func TestLongAndTell(t *testing.T) {
	cases := []struct {
		n uint64
		b []byte
	}{
		{0, []byte{0, 0, 0, 0, 0, 0, 0, 0}},
		{258, []byte{0, 0, 0, 0, 0, 0, 1, 2}},
		{0x0102030405060708, []byte{1, 2, 3, 4, 5, 6, 7, 8}},
		{1 << 63, []byte{0x80, 0, 0, 0, 0, 0, 0, 0}},
		{api.MaxNumber, []byte{0, 0x20, 0, 0, 0, 0, 0, 0}},
		{math.MaxUint64, bytes.Repeat([]byte{0xff}, 8)},
	}
	for _, c := range cases {
		if n, e := Long(c.b); n != c.n || e != api.OK {
			t.Errorf("Long(%v) = %x, %d; want %x", c.b, n, e, c.n)
		}
		if b := Tell(c.n); !bytes.Equal(b, c.b) {
			t.Errorf("Tell(%x) = %v; want %v", c.n, b, c.b)
		}
	}
}

func TestLongRefusesOtherLengths(t *testing.T) {
	for _, n := range []int{0, 1, 4, 7, 9, 16, 4096, 1 << 16} {
		b := bytes.Repeat([]byte{0xff}, n+8)[:n]
		if w, e := Long(b); w != 0 || e != api.ErrArg {
			t.Errorf("Long of %d bytes = %x, %d", n, w, e)
		}
	}
	if n, e := Long(nil); n != 0 || e != api.ErrArg {
		t.Errorf("Long(nil) = %x, %d", n, e)
	}
}

// P1.2

func TestTurn(t *testing.T) {
	cases := []struct {
		w    uint32
		n    int
		want uint32
	}{
		{1, -1, 0x80000000},
		{0x80000000, 1, 1},
		{0x12345678, 0, 0x12345678},
		{0x12345678, 4, 0x23456781},
		{0x12345678, 8, 0x34567812},
		{0x12345678, -8, 0x78123456},
		{0x12345678, 31, 0x091a2b3c},
		{0x12345678, 32, 0x12345678},
		{0x12345678, -32, 0x12345678},
		{0x12345678, 33, 0x2468acf0},
		{0x12345678, -33, 0x091a2b3c},
		{0x12345678, 64, 0x12345678},
		{0x12345678, 32 * 1000003, 0x12345678},
		{0x12345678, -32 * 1000003, 0x12345678},
		{0x12345678, 32*1000003 + 8, 0x34567812},
		{0x12345678, -32*1000003 - 8, 0x78123456},
		// MaxInt is 31 modulo 32, and MinInt is 0.
		{0x12345678, math.MaxInt, 0x091a2b3c},
		{0x12345678, math.MinInt, 0x12345678},
		{0x12345678, math.MinInt + 1, 0x2468acf0},
		{0, 5, 0},
		{0xffffffff, 5, 0xffffffff},
	}
	for _, c := range cases {
		if got := Turn(c.w, c.n); got != c.want {
			t.Errorf("Turn(%08x, %d) = %08x; want %08x", c.w, c.n, got, c.want)
		}
	}
}

func TestTurnMovesEachBit(t *testing.T) {
	for bit := range 32 {
		for n := -100; n <= 100; n++ {
			want := uint32(1) << (((bit+n)%32 + 32) % 32)
			if got := Turn(1<<bit, n); got != want {
				t.Fatalf("Turn(1<<%d, %d) = %08x; want %08x", bit, n, got, want)
			}
		}
	}
}

func TestChoose(t *testing.T) {
	for _, a := range someWords {
		for _, b := range someWords {
			if got := Choose(0, a, b); got != a {
				t.Errorf("Choose(0, %08x, %08x) = %08x", a, b, got)
			}
			for _, bit := range someWords[1:] {
				if got := Choose(bit, a, b); got != b {
					t.Errorf("Choose(%08x, %08x, %08x) = %08x", bit, a, b, got)
				}
			}
		}
	}
	for i := range 32 {
		if got := Choose(1<<i, 3, 4); got != 4 {
			t.Errorf("Choose(1<<%d, 3, 4) = %d", i, got)
		}
	}
}

// P1.3

func TestSame(t *testing.T) {
	cases := []struct {
		a, b []byte
		want bool
	}{
		{nil, nil, true},
		{nil, []byte{}, true},
		{[]byte{}, []byte{}, true},
		{nil, []byte{0}, false},
		{[]byte{}, []byte{0}, false},
		{[]byte{0}, []byte{0}, true},
		{[]byte{0}, []byte{0, 0}, false},
		{[]byte{1, 2}, []byte{1, 2, 0}, false},
		{[]byte{1, 2, 3}, []byte{1, 2}, false},
		{[]byte{1, 2, 3}, []byte{1, 2, 3}, true},
		{[]byte{1, 2}, []byte{2, 1}, false},
		// Differences that cancel out: by sum, by exclusive or, by a carry out of a byte.
		{[]byte{1, 1}, []byte{2, 2}, false},
		{[]byte{0, 2}, []byte{1, 1}, false},
		{[]byte{0x80, 0x80}, []byte{0, 0}, false},
		// What is in the spare capacity does not count.
		{[]byte{1, 2, 3}[:2], []byte{1, 2, 4}[:2], true},
		{[]byte{1, 2, 3}[:2], []byte{1, 2, 3}, false},
	}
	for _, c := range cases {
		if got := Same(c.a, c.b); got != c.want {
			t.Errorf("Same(%v, %v) = %v", c.a, c.b, got)
		}
		if got := Same(c.b, c.a); got != c.want {
			t.Errorf("Same(%v, %v) = %v", c.b, c.a, got)
		}
	}
	alike := []byte{1, 2, 3}
	if !Same(alike, alike) {
		t.Error("a slice is not the same as itself")
	}
}

func TestSameSeesEachBit(t *testing.T) {
	a := pattern(300)
	for i := range a {
		for bit := range 8 {
			b := bytes.Clone(a)
			b[i] ^= 1 << bit
			if Same(a, b) {
				t.Fatalf("Same misses bit %d of byte %d", bit, i)
			}
		}
	}
}

func TestFill(t *testing.T) {
	cases := []struct{ n, size, want int }{
		{0, 1, 0}, {1, 1, 1}, {5, 1, 5},
		{0, 4, 0}, {1, 4, 4}, {3, 4, 4}, {4, 4, 4}, {5, 4, 8}, {8, 4, 8},
		{1, 3, 3}, {2, 3, 3}, {3, 3, 3}, {4, 3, 6},
		{0, 64, 0}, {55, 64, 64}, {64, 64, 64}, {65, 64, 128},
		{0, 4095, 0}, {4096, 4095, 8190},
		{0, 4096, 0}, {1, 4096, 4096}, {4095, 4096, 4096}, {4096, 4096, 4096}, {4097, 4096, 8192},
		{1 << 16, 4096, 1 << 16},
	}
	for _, c := range cases {
		b := pattern(c.n)
		want := append(bytes.Clone(b), make([]byte, c.want-c.n)...)
		if got, e := Fill(b, c.size); !bytes.Equal(got, want) || e != api.OK {
			t.Errorf("Fill of %d bytes to a multiple of %d: %d bytes, error %d; want %d bytes, the first %d unchanged, then zeros", c.n, c.size, len(got), e, c.want, c.n)
		}
	}
	if got, e := Fill(nil, 7); len(got) != 0 || e != api.OK {
		t.Errorf("Fill(nil, 7) = %v, %d", got, e)
	}
}

func TestFillOfEverySizeAllowed(t *testing.T) {
	b := pattern(5000)
	for size := 1; size <= 4096; size++ {
		got, e := Fill(b, size)
		if e != api.OK || len(got)%size != 0 || len(got) < len(b) || len(got)-len(b) >= size {
			t.Fatalf("Fill of 5000 bytes to a multiple of %d: %d bytes, error %d", size, len(got), e)
		}
	}
}

func TestFillRefusesOtherSizes(t *testing.T) {
	for _, size := range []int{0, -1, -4, -4096, 4097, 8192, 1 << 31, math.MaxInt, math.MinInt} {
		for _, b := range [][]byte{nil, {}, {1, 2, 3}, pattern(4097)} {
			if got, e := Fill(b, size); len(got) != 0 || e != api.ErrArg {
				t.Errorf("Fill of %d bytes to a multiple of %d: %d bytes, error %d", len(b), size, len(got), e)
			}
		}
	}
}

func TestFillIgnoresSpareCapacity(t *testing.T) {
	room := bytes.Repeat([]byte{0xee}, 16)
	if got, e := Fill(room[:3], 8); !bytes.Equal(got, []byte{0xee, 0xee, 0xee, 0, 0, 0, 0, 0}) || e != api.OK {
		t.Errorf("Fill = %v, %d", got, e)
	}
}

// P1.4

func TestStoreAndLoadAreInverse(t *testing.T) {
	for _, low := range []bool{false, true} {
		for _, w := range someWords {
			if got, e := Load(Store(w, low), low); got != w || e != api.OK {
				t.Errorf("Load(Store(%08x, %v)) = %08x, %d", w, low, got, e)
			}
		}
		for i := range 256 {
			b := pattern(i + 4)[i:]
			w, e := Load(b, low)
			if got := Store(w, low); !bytes.Equal(got, b) || e != api.OK {
				t.Errorf("Store(Load(%v, %v)) = %v, %d", b, low, got, e)
			}
		}
	}
}

func TestTurningBack(t *testing.T) {
	bits := []int{math.MinInt, math.MinInt + 1, math.MinInt + 17, math.MaxInt, math.MaxInt - 17, 1 << 40, -1 << 40}
	for n := -70; n <= 70; n++ {
		bits = append(bits, n)
	}
	for _, w := range someWords {
		for _, n := range bits {
			if got := Turn(Turn(w, n), -n); got != w {
				t.Errorf("%08x turned by %d and back is %08x", w, n, got)
			}
		}
	}
}

func TestTurningAllTheWay(t *testing.T) {
	for _, w := range someWords {
		for _, n := range []int{1, -1} {
			got := w
			for range 32 {
				got = Turn(got, n)
			}
			if got != w {
				t.Errorf("%08x turned 32 times by %d is %08x", w, n, got)
			}
		}
	}
}

// Memory (DOC.md, 'Rules that hold everywhere')

func TestArgumentsAreLeftAsTheyWere(t *testing.T) {
	calls := []struct {
		name string
		n    int
		call func(b []byte)
	}{
		{"Load", 4, func(b []byte) { Load(b, false) }},
		{"Load low", 4, func(b []byte) { Load(b, true) }},
		{"Load of too few", 3, func(b []byte) { Load(b, true) }},
		{"Long", 8, func(b []byte) { Long(b) }},
		{"Long of too many", 9, func(b []byte) { Long(b) }},
		{"Same", 5, func(b []byte) { Same(b, []byte{9, 9, 9, 9, 9}) }},
		{"Same, second", 5, func(b []byte) { Same([]byte{9, 9, 9, 9, 9}, b) }},
		{"Same, both", 5, func(b []byte) { Same(b, b) }},
		{"Fill", 5, func(b []byte) { Fill(b, 8) }},
		{"Fill of a multiple", 8, func(b []byte) { Fill(b, 4) }},
		{"Fill of nothing", 0, func(b []byte) { Fill(b, 4) }},
		{"Fill of size 0", 5, func(b []byte) { Fill(b, 0) }},
	}
	for _, c := range calls {
		room := pattern(64)
		before := bytes.Clone(room)
		c.call(room[:c.n])
		if !bytes.Equal(room, before) {
			t.Errorf("%s changes its argument or the spare capacity", c.name)
		}
	}
}

func TestFillSharesNoMemory(t *testing.T) {
	for _, n := range []int{0, 1, 5, 7, 8, 16, 24} {
		for _, size := range []int{1, 4, 8, 4096} {
			b := pattern(64)[:n]
			first, _ := Fill(b, size)
			second, _ := Fill(b, size)
			if shares(first, b) {
				t.Errorf("Fill of %d bytes to a multiple of %d shares memory with its argument", n, size)
			}
			if shares(first, second) {
				t.Errorf("two results of Fill of %d bytes to a multiple of %d share memory", n, size)
			}
		}
	}
}

func TestStoreAndTellShareNoMemory(t *testing.T) {
	if shares(Store(0x01020304, false), Store(0x01020304, false)) || shares(Store(1, true), Store(1, true)) {
		t.Error("two results of Store share memory")
	}
	if shares(Tell(258), Tell(258)) {
		t.Error("two results of Tell share memory")
	}
}

// shares reports whether writing to a, up to its capacity, changes b, up to its own.
func shares(a, b []byte) bool {
	a, b = a[:cap(a)], b[:cap(b)]
	before := bytes.Clone(b)
	for i := range a {
		a[i] ^= 0xff
	}
	return !bytes.Equal(b, before)
}

// pattern returns n bytes, none of them zero, so that padding shows.
func pattern(n int) []byte {
	b := make([]byte, n)
	for i := range b {
		b[i] = byte(i%255 + 1)
	}
	return b
}
