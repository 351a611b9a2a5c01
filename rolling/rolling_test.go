package rolling

import (
	"bytes"
	"math"
	"math/rand/v2"
	"testing"

	"hypogeum/api"
	"hypogeum/gf2"
)

// example is an irreducible polynomial of degree 53.
const example = 0x3da3358b4dc173

// counts are numbers of bytes around which the window is filled once and twice, and numbers far from them.
var counts = []int{0, 1, 2, 7, 8, 14, 15, 16, 17, 18, 31, 32, 33, 48, 100, 3000}

// firsts and lasts tell for each degree d from 9 on the first and the last odd irreducible polynomial of that degree, less 2^d or 2^(d+1) less it, from PARI/GP.
var (
	firsts = []uint64{3, 9, 5, 9, 27, 33, 3, 43, 9, 9, 39, 9, 5, 3, 33, 27, 9, 27, 39, 3, 5, 3, 9, 141, 75, 27, 5, 53, 63, 99, 17, 57, 9, 39, 89, 33, 27, 3, 33, 45, 113, 29, 75, 9, 71}
	lasts  = []uint64{5, 1, 5, 1, 3, 25, 3, 19, 17, 1, 45, 7, 51, 19, 3, 13, 15, 31, 29, 1, 23, 115, 9, 11, 225, 31, 5, 1, 3, 13, 17, 73, 33, 37, 53, 59, 29, 59, 3, 13, 17, 7, 43, 1, 27}
)

// vectorBytes returns the bytes whose fingerprints the vectors have.
func vectorBytes() [][]byte {
	squares := make([]byte, 33)
	for i := range squares {
		squares[i] = byte((i+1)*(i+1)*7 + 3)
	}
	steps := make([]byte, 40)
	for i := range steps {
		steps[i] = byte(i * 37)
	}
	return [][]byte{{1}, {1, 0}, []byte("hypogeum"), rising(16)[1:], rising(16), same(16, 0xff), lone(17, 0, 0x80), lone(16, 0, 0x80), same(17, 0xff), squares[:32], squares, steps}
}

// vectors are fingerprints of vectorBytes as PARI/GP computes them, for polynomials of which some are irreducible.
var vectors = []struct {
	m    uint64
	want [12]uint64
}{
	{example, [12]uint64{1, 0x100, 0x10fa2d7242cdc, 0xfb6d1e1e5ed17, 0xfb6d1e1e5ed17, 0x16809d20b57810, 0, 0x31149754924a1, 0x16809d20b57810, 0x107e1e1ec14271, 0x6d2aa28dc0008, 0x19161a62beae99}},
	{1 << 53, [12]uint64{1, 0x100, 0x19706f6765756d, 0x90a0b0c0d0e0f, 0x90a0b0c0d0e0f, 0x1fffffffffffff, 0, 0, 0x1fffffffffffff, 0x1ff273029f4a03, 0x1273029f4a03ca, 0x5ea0f34597ea3}},
	{1<<54 - 1, [12]uint64{1, 0x100, 0x68f90989a8b33, 0x1061b1815123f, 0x1061b1815123f, 0xfffff, 0, 0x80000, 0xfffff, 0xbc1c40085146b, 0x1c4008bb46be5, 0xe763ff10719fc}},
	{1<<53 | 0x47, [12]uint64{1, 0x100, 0x19706f6765ad64, 0x1f4ae1d897baa6, 0x1f4ae1d897baa6, 0x1ffffc033fffc2, 0, 0x202a00000, 0x1ffffc033fffc2, 0x1f1dfbbc3fa8a6, 0x1df81747289a22, 0xe5b48ce46ea02}},
	{0x4000001b5, [12]uint64{1, 0x100, 0x2e65e0a2b, 0x3e63af450, 0x3e63af450, 0x1730ff082, 0, 0x3ca880819, 0x1730ff082, 0x3de1ff1b6, 0xf35f62c2, 0x19df07cc1}},
	{0x100400007, [12]uint64{1, 0x100, 0x534d6e61, 0x6d56ded3, 0x6d56ded3, 0xfcc2ff7d, 0, 0x82a380c3, 0xfcc2ff7d, 0xca67bb66, 0x156dfb5f, 0xbbdbdb1f}},
	{0x1002d, [12]uint64{1, 0x100, 0x6113, 0x704a, 0x704a, 0xd46c, 0, 0x3e4c, 0xd46c, 0xb007, 0xf69b, 0x507e}},
	{0x11021, [12]uint64{1, 0x100, 0xc95c, 0xdfae, 0xdfae, 0x95b4, 0, 0x577e, 0x95b4, 0x7146, 0xa1ef, 0x7df8}},
	{0x211, [12]uint64{1, 0x100, 0x1b9, 0x1d3, 0x1d3, 0x174, 0, 0xc6, 0x174, 0x1e7, 0x139, 0xca}},
	{0x200, [12]uint64{1, 0x100, 0x16d, 0xf, 0xf, 0x1ff, 0, 0, 0x1ff, 3, 0x1ca, 0xa3}},
	{0x3ff, [12]uint64{1, 0x100, 0x93, 0x1df, 0x1df, 0xff, 0, 0x80, 0xff, 0x3d, 0, 0x91}},
	{0x201, [12]uint64{1, 0x100, 0x8e, 0x1b9, 0x1b9, 3, 0, 2, 3, 2, 0x162, 0xdf}},
}

// P13.1 and P13.2: New and Of, and when they return an error

func TestExample(t *testing.T) {
	for _, m := range rightPolynomials() {
		r := roll(t, m)
		if got := r.Push(1); got != 1 {
			t.Errorf("m %#x: the fingerprint of 1 is %#x", m, got)
		}
		if got := r.Push(0); got != 0x100 {
			t.Errorf("m %#x: the fingerprint of 1, 0 is %#x", m, got)
		}
	}
}

func TestVectors(t *testing.T) {
	for _, v := range vectors {
		for i, b := range vectorBytes() {
			if got, e := Of(v.m, b); got != v.want[i] || e != api.OK {
				t.Errorf("Of(%#x, %x) = %#x, %d; want %#x", v.m, b, got, e, v.want[i])
			}
			r := roll(t, v.m)
			for _, next := range b {
				r.Push(next)
			}
			if got := r.Value(); got != v.want[i] {
				t.Errorf("m %#x: after %x the fingerprint is %#x; want %#x", v.m, b, got, v.want[i])
			}
		}
	}
}

func TestRightPolynomials(t *testing.T) {
	for _, m := range rightPolynomials() {
		r, e := New(m)
		if r == nil || e != api.OK {
			t.Fatalf("New(%#x) = %v, %d", m, r, e)
		}
		if got := r.Value(); got != 0 {
			t.Errorf("m %#x: the fingerprint is %#x before anything has been pushed", m, got)
		}
		if got, e := Of(m, []byte{0xa5}); got != 0xa5 || e != api.OK {
			t.Errorf("Of(%#x, a5) = %#x, %d", m, got, e)
		}
	}
}

func TestWrongPolynomials(t *testing.T) {
	for _, m := range wrongPolynomials() {
		if r, e := New(m); r != nil || e != api.ErrRange {
			t.Errorf("New(%#x) = %v, %d", m, r, e)
		}
		for _, n := range []int{0, 1, 16, 17} {
			if got, e := Of(m, same(n, 0xff)); got != 0 || e != api.ErrRange {
				t.Errorf("Of(%#x, %d bytes) = %#x, %d", m, n, got, e)
			}
		}
		if got, e := Of(m, nil); got != 0 || e != api.ErrRange {
			t.Errorf("Of(%#x, nil) = %#x, %d", m, got, e)
		}
	}
}

// P13.1: Push and Value

func TestPushOfEveryByte(t *testing.T) {
	for _, m := range fewPolynomials() {
		for b := range 256 {
			w := watch(t, m)
			w.push(t, byte(b))
			if got := w.roll.Value(); got != uint64(b) {
				t.Errorf("m %#x: the fingerprint of %#x is %#x", m, b, got)
			}
			for i := range 20 {
				w.push(t, byte(b+i*i))
			}
		}
	}
}

func TestPushOfManyBytes(t *testing.T) {
	for _, m := range rightPolynomials() {
		for _, b := range [][]byte{same(50, 0), same(50, 0xff), same(50, 1), same(50, 0x80), rising(50), random(50)} {
			w := watch(t, m)
			w.pushAll(t, b)
		}
	}
	for _, m := range fewPolynomials() {
		w := watch(t, m)
		w.pushAll(t, random(3000))
		w.pushAll(t, same(40, 0))
		w.pushAll(t, same(40, 0xff))
		w.pushAll(t, random(40))
	}
}

// The byte leaves the window with the sixteenth push after its own, and then leaves nothing behind.
func TestOneByteAmongZeros(t *testing.T) {
	for _, m := range rightPolynomials() {
		for _, b := range []byte{1, 2, 0x80, 0xff} {
			for _, before := range []int{0, 1, 15, 16, 17, 40} {
				w := watch(t, m)
				w.pushAll(t, lone(before+41, before, b))
				w.pushAll(t, []byte{b})
			}
			r := roll(t, m)
			r.Push(b)
			for i := range 15 {
				want, _ := gf2.Mul(uint64(b), power(8*(i+1), m), m)
				if got := r.Push(0); got != want {
					t.Errorf("m %#x: after %#x and %d zeros the fingerprint is %#x; want %#x", m, b, i+1, got, want)
				}
			}
			for range 40 {
				if got := r.Push(0); got != 0 {
					t.Errorf("m %#x: %#x has left the window, and the fingerprint is %#x", m, b, got)
				}
			}
		}
	}
}

// A byte that leaves the window among others that stay takes with it what it counted for, whatever it is.
func TestEveryByteThatLeaves(t *testing.T) {
	for _, m := range fewPolynomials() {
		for b := range 256 {
			for _, rest := range []byte{0, 0xff, 0x5a} {
				r := roll(t, m)
				r.Push(byte(b))
				for range 16 {
					r.Push(rest)
				}
				if got, want := r.Value(), wantOf(m, same(16, rest)); got != want {
					t.Errorf("m %#x: %#x has left the window before %#x, and the fingerprint is %#x; want %#x", m, b, rest, got, want)
				}
			}
		}
	}
}

// Modulo a power of x, the fingerprint is the lowest bits of the window.
func TestHighestBitAlone(t *testing.T) {
	b := random(200)
	for d := 9; d <= 53; d++ {
		r := roll(t, 1<<d)
		low := uint64(0)
		for _, next := range b {
			low = low<<8 | uint64(next)
			if got := r.Push(next); got != low&(1<<d-1) {
				t.Fatalf("degree %d: the fingerprint is %#x; want %#x", d, got, low&(1<<d-1))
			}
		}
	}
}

func TestValueChangesNothing(t *testing.T) {
	for _, m := range fewPolynomials() {
		asked, other := roll(t, m), roll(t, m)
		for i, next := range random(100) {
			for range i % 4 {
				asked.Value()
			}
			if got, want := asked.Push(next), other.Push(next); got != want {
				t.Errorf("m %#x: after byte %d the fingerprint is %#x; want %#x", m, i, got, want)
			}
		}
	}
}

func TestFingerprintHasALesserDegree(t *testing.T) {
	for _, m := range rightPolynomials() {
		r := roll(t, m)
		for _, next := range random(300) {
			if got := r.Push(next); gf2.Degree(got) >= gf2.Degree(m) {
				t.Fatalf("m %#x: the fingerprint is %#x", m, got)
			}
		}
	}
}

// P13.1: Reset

func TestReset(t *testing.T) {
	for _, m := range fewPolynomials() {
		for _, before := range counts {
			for _, after := range counts {
				w := watch(t, m)
				w.pushAll(t, random(before))
				w.reset(t)
				w.pushAll(t, same(min(after, 40), 0))
				w.reset(t)
				w.reset(t)
				w.pushAll(t, random(min(after, 40)))
			}
		}
	}
}

func TestResetOfANewRoll(t *testing.T) {
	for _, m := range rightPolynomials() {
		w := watch(t, m)
		w.reset(t)
		w.reset(t)
		w.pushAll(t, random(40))
	}
}

// Two Rolls that have the same window are told apart by nothing, one that was reset among them.
func TestResetRestoresTheFirstState(t *testing.T) {
	for _, m := range rightPolynomials() {
		used, fresh := roll(t, m), roll(t, m)
		for _, next := range same(20, 0xff) {
			used.Push(next)
		}
		used.Reset()
		for i, next := range random(60) {
			if used.Value() != fresh.Value() || used.Push(next) != fresh.Push(next) {
				t.Fatalf("m %#x: a Roll that was reset differs from a new one at byte %d", m, i)
			}
		}
	}
}

// P13.1: Copy

func TestCopy(t *testing.T) {
	do := map[string]func(w *watched, b []byte){
		"push":  func(w *watched, b []byte) { w.pushAll(t, b) },
		"reset": func(w *watched, b []byte) { w.reset(t); w.pushAll(t, b) },
		"none":  func(w *watched, b []byte) {},
	}
	for _, m := range fewPolynomials() {
		for _, n := range counts {
			for _, first := range do {
				for _, second := range do {
					a := watch(t, m)
					a.pushAll(t, random(n))
					b := a.copied(t)
					first(a, same(20, 0xff))
					b.check(t)
					second(b, rising(20))
					a.check(t)
					first(b, random(20))
					second(a, same(20, 1))
					b.check(t)
				}
			}
		}
	}
}

func TestCopyIsAnother(t *testing.T) {
	for _, m := range fewPolynomials() {
		a := roll(t, m)
		b := a.Copy()
		if a == b || b == nil {
			t.Errorf("m %#x: Copy returns the Roll itself, or nil", m)
		}
	}
}

func TestCopyOfACopy(t *testing.T) {
	for _, m := range fewPolynomials() {
		all := []*watched{watch(t, m)}
		for i := range 12 {
			last := all[len(all)-1]
			last.pushAll(t, random(5*i))
			all = append(all, last.copied(t))
		}
		for i, w := range all {
			if i%3 == 0 {
				w.reset(t)
			}
			w.pushAll(t, rising(i+1))
		}
		for _, w := range all {
			w.check(t)
			w.pushAll(t, random(20))
		}
	}
}

// An object is also a copy of one that was made by assignment.
func TestCopyByValue(t *testing.T) {
	for _, m := range fewPolynomials() {
		for _, n := range counts {
			a := watch(t, m)
			a.pushAll(t, random(n))
			value := *a.roll
			b := &watched{m: m, roll: &value, pushed: bytes.Clone(a.pushed)}
			a.pushAll(t, same(20, 0xff))
			b.check(t)
			b.pushAll(t, rising(20))
			a.check(t)
			b.reset(t)
			a.check(t)
			a.pushAll(t, rising(20))
		}
	}
}

// P13.1: a nil Roll

func TestNil(t *testing.T) {
	var none *Roll
	for b := range 256 {
		if got := none.Push(byte(b)); got != 0 {
			t.Errorf("Push(%#x) of nil = %#x", b, got)
		}
		if got := none.Value(); got != 0 {
			t.Errorf("Value of nil = %#x", got)
		}
		if got := none.Copy(); got != nil {
			t.Errorf("Copy of nil = %v", got)
		}
		none.Reset()
	}
}

// P13.1: all calls together

func TestManyCalls(t *testing.T) {
	source := rand.New(rand.NewPCG(13, 1))
	few := fewPolynomials()
	all := []*watched{}
	for _, m := range few {
		all = append(all, watch(t, m))
	}
	for range 30000 {
		i := source.IntN(len(all))
		switch source.IntN(20) {
		case 0:
			all[i].reset(t)
		case 1:
			all[source.IntN(len(all))] = all[i].copied(t)
		case 2:
			all[source.IntN(len(all))] = watch(t, few[source.IntN(len(few))])
		default:
			all[i].push(t, byte(source.Uint32()))
		}
		all[source.IntN(len(all))].check(t)
	}
}

func TestRollsAreIndependent(t *testing.T) {
	all := []*watched{}
	for _, m := range append(rightPolynomials(), rightPolynomials()...) {
		all = append(all, watch(t, m))
	}
	for i, next := range random(40) {
		for j, w := range all {
			w.push(t, next^byte(j*i))
		}
	}
	for _, w := range all {
		w.check(t)
	}
}

// P13.2: Of

func TestOf(t *testing.T) {
	for _, m := range rightPolynomials() {
		for _, n := range counts {
			for _, b := range [][]byte{same(n, 0), same(n, 0xff), rising(n), random(n)} {
				checkOf(t, m, b)
			}
			if n > 0 {
				checkOf(t, m, lone(n, 0, 0x80))
				checkOf(t, m, lone(n, n-1, 0x80))
				checkOf(t, m, lone(n, max(0, n-16), 0x80))
				checkOf(t, m, lone(n, max(0, n-17), 0x80))
			}
		}
	}
}

func TestOfEachLength(t *testing.T) {
	b := random(300)
	for _, m := range fewPolynomials() {
		for n := range b {
			checkOf(t, m, b[:n])
			checkOf(t, m, b[n:])
		}
	}
}

func TestOfNoBytes(t *testing.T) {
	for _, m := range rightPolynomials() {
		for _, b := range [][]byte{nil, {}, random(50)[:0], random(50)[50:]} {
			if got, e := Of(m, b); got != 0 || e != api.OK {
				t.Errorf("Of(%#x, no bytes) = %#x, %d", m, got, e)
			}
		}
	}
}

func TestOfIsWhatPushReturnsLast(t *testing.T) {
	for _, m := range fewPolynomials() {
		r := roll(t, m)
		b := random(200)
		for i := range b {
			pushed := r.Push(b[i])
			if got, e := Of(m, b[:i+1]); got != pushed || e != api.OK {
				t.Errorf("Of(%#x, %d bytes) = %#x, %d; Push returns %#x", m, i+1, got, e, pushed)
			}
		}
	}
}

// P13.3

func TestOnlyTheWindowCounts(t *testing.T) {
	for _, m := range fewPolynomials() {
		for _, window := range [][]byte{same(16, 0), same(16, 0xff), rising(16), random(16), lone(16, 0, 0x80), lone(16, 15, 1)} {
			want := wantOf(m, window)
			for _, n := range counts {
				for _, before := range [][]byte{same(n, 0), same(n, 0xff), rising(n), random(n)} {
					all := join(before, window)
					if got, e := Of(m, all); got != want || e != api.OK {
						t.Errorf("Of(%#x, %x after %d bytes) = %#x, %d; want %#x", m, window, n, got, e, want)
					}
					if got := pushedTo(roll(t, m), all); got != want {
						t.Errorf("m %#x: the fingerprint of %x after %d bytes is %#x; want %#x", m, window, n, got, want)
					}
				}
			}
		}
	}
}

// Rolls that have come to the same window in other ways go on alike.
func TestSameWindowGoesOnAlike(t *testing.T) {
	for _, m := range fewPolynomials() {
		window := random(16)
		rolls := []*Roll{}
		for _, n := range counts {
			r := roll(t, m)
			pushedTo(r, join(same(n, 0xff), window))
			rolls = append(rolls, r)
		}
		reset := roll(t, m)
		pushedTo(reset, rising(30))
		reset.Reset()
		pushedTo(reset, window)
		rolls = append(rolls, reset, reset.Copy())
		for i, next := range rising(40) {
			want := rolls[0].Push(next)
			for _, r := range rolls[1:] {
				if got := r.Push(next); got != want {
					t.Errorf("m %#x: byte %d after the same window: %#x and %#x", m, i, got, want)
				}
			}
		}
	}
}

func TestMissingBytesAreZeros(t *testing.T) {
	for _, m := range rightPolynomials() {
		for n := range 17 {
			b := random(n)
			short, _ := Of(m, b)
			for more := range 20 {
				if got, e := Of(m, join(same(more, 0), b)); got != short || e != api.OK {
					t.Errorf("m %#x: %d zeros before %d bytes count: %#x, %d; want %#x", m, more, n, got, e, short)
				}
			}
		}
	}
}

// Modulo an odd polynomial, a byte that is not 0 has no multiple by a power of x whose remainder is 0.
func TestAllBytesOfTheWindowCount(t *testing.T) {
	for _, m := range rightPolynomials() {
		if m&1 == 0 {
			continue
		}
		b := random(40)
		want, _ := Of(m, b)
		for i := range b {
			for bit := range 8 {
				b[i] ^= 1 << bit
				if got, _ := Of(m, b); (got != want) != (i >= 24) {
					t.Errorf("m %#x: bit %d of byte %d of 40: the fingerprint is %#x, and was %#x", m, bit, i, got, want)
				}
				b[i] ^= 1 << bit
			}
		}
	}
}

// P13.4

func TestExclusiveOr(t *testing.T) {
	windows := [][]byte{same(16, 0), same(16, 0xff), rising(16), lone(16, 0, 0x80), lone(16, 0, 0xff), lone(16, 15, 1), random(16)}
	source := rand.New(rand.NewPCG(13, 2))
	for range 10 {
		windows = append(windows, randomFrom(source, 16))
	}
	for _, m := range rightPolynomials() {
		for _, a := range windows {
			for _, b := range windows {
				checkExclusiveOr(t, m, a, b)
			}
		}
	}
}

func TestExclusiveOrOfStreams(t *testing.T) {
	source := rand.New(rand.NewPCG(13, 3))
	for _, m := range fewPolynomials() {
		a, b, both := roll(t, m), roll(t, m), roll(t, m)
		for i := range 500 {
			x, y := byte(source.Uint32()), byte(source.Uint32())
			if got, want := both.Push(x^y), a.Push(x)^b.Push(y); got != want {
				t.Errorf("m %#x: byte %d: the fingerprint of the exclusive or is %#x; want %#x", m, i, got, want)
			}
		}
	}
}

// A window is the exclusive or of those that have one bit of it each.
func TestSingleBits(t *testing.T) {
	for _, m := range rightPolynomials() {
		window := random(16)
		sum := uint64(0)
		for i := range 128 {
			bit := window[i/8] & (0x80 >> (i % 8))
			one, e := Of(m, lone(16, i/8, bit))
			if bit != 0 && one != power(127-i, m) || e != api.OK {
				t.Errorf("m %#x: the fingerprint of bit %d is %#x, %d; want %#x", m, i, one, e, power(127-i, m))
			}
			sum ^= one
		}
		if got, e := Of(m, window); got != sum || e != api.OK {
			t.Errorf("Of(%#x, %x) = %#x, %d; its bits have %#x", m, window, got, e, sum)
		}
	}
}

// Memory and order of calls (DOC.md, 'Rules that hold everywhere')

func TestBytesAreLeftAsTheyWere(t *testing.T) {
	for _, m := range append(fewPolynomials(), 0, 1<<8, 1<<54) {
		for _, n := range counts {
			b := random(n + 50)
			Of(m, b[:n])
			Of(m, b[n:])
			if !bytes.Equal(b, random(n+50)) {
				t.Errorf("Of(%#x, %d bytes) changes them, or their spare capacity", m, n)
			}
		}
	}
}

func TestSpareCapacityDoesNotCount(t *testing.T) {
	room := random(200)
	for _, m := range fewPolynomials() {
		for n := range 60 {
			want := wantOf(m, bytes.Clone(room[100:100+n]))
			if got, e := Of(m, room[100:100+n]); got != want || e != api.OK {
				t.Errorf("Of(%#x, %d bytes) with bytes around them = %#x, %d; want %#x", m, n, got, e, want)
			}
		}
	}
}

func TestErrorsChangeNothing(t *testing.T) {
	for _, m := range fewPolynomials() {
		w := watch(t, m)
		w.pushAll(t, random(20))
		for _, wrong := range wrongPolynomials() {
			New(wrong)
			Of(wrong, same(20, 0xff))
		}
		w.check(t)
		w.pushAll(t, rising(20))
	}
}

// watched is a Roll, and what has been pushed to it since it was new or reset.
type watched struct {
	m      uint64
	roll   *Roll
	pushed []byte
}

func watch(t *testing.T, m uint64) *watched {
	t.Helper()
	w := &watched{m: m, roll: roll(t, m)}
	w.check(t)
	return w
}

func (w *watched) check(t *testing.T) {
	t.Helper()
	if got, want := w.roll.Value(), wantOf(w.m, w.pushed); got != want {
		t.Fatalf("m %#x: after %d bytes, the last ones %x, Value is %#x; want %#x", w.m, len(w.pushed), windowOf(w.pushed), got, want)
	}
}

func (w *watched) push(t *testing.T, b byte) {
	t.Helper()
	w.pushed = append(w.pushed, b)
	if got, want := w.roll.Push(b), wantOf(w.m, w.pushed); got != want {
		t.Fatalf("m %#x: after %d bytes, the last ones %x, Push returns %#x; want %#x", w.m, len(w.pushed), windowOf(w.pushed), got, want)
	}
	if w.roll.Value() != w.roll.Value() {
		t.Fatalf("m %#x: Value changes what it returns", w.m)
	}
	w.check(t)
}

func (w *watched) pushAll(t *testing.T, b []byte) {
	t.Helper()
	for i, next := range b {
		// The first bytes of many, and those after which the window has been filled anew, tell all that can go wrong.
		if i < 40 || i > len(b)-20 || i%97 == 0 {
			w.push(t, next)
		} else {
			w.roll.Push(next)
			w.pushed = append(w.pushed, next)
		}
	}
	w.check(t)
}

func (w *watched) reset(t *testing.T) {
	t.Helper()
	w.roll.Reset()
	w.pushed = nil
	w.check(t)
	if got := w.roll.Value(); got != 0 {
		t.Fatalf("m %#x: after Reset the fingerprint is %#x", w.m, got)
	}
}

func (w *watched) copied(t *testing.T) *watched {
	t.Helper()
	c := &watched{m: w.m, roll: w.roll.Copy(), pushed: bytes.Clone(w.pushed)}
	if c.roll == nil {
		t.Fatalf("m %#x: Copy returns nil", w.m)
	}
	w.check(t)
	c.check(t)
	return c
}

// roll returns a new Roll for a polynomial that must be right.
func roll(t *testing.T, m uint64) *Roll {
	t.Helper()
	r, e := New(m)
	if r == nil || e != api.OK {
		t.Fatalf("New(%#x) = %v, %d", m, r, e)
	}
	return r
}

// pushedTo returns the fingerprint after all bytes have been pushed to a Roll.
func pushedTo(r *Roll, b []byte) uint64 {
	for _, next := range b {
		r.Push(next)
	}
	return r.Value()
}

// checkOf fails unless Of returns what wantOf computes.
func checkOf(t *testing.T, m uint64, b []byte) {
	t.Helper()
	if got, e := Of(m, b); got != wantOf(m, b) || e != api.OK {
		t.Errorf("Of(%#x, %d bytes, the last ones %x) = %#x, %d; want %#x", m, len(b), windowOf(b), got, e, wantOf(m, b))
	}
}

// checkExclusiveOr fails unless the fingerprints of two windows make that of their exclusive or.
func checkExclusiveOr(t *testing.T, m uint64, a, b []byte) {
	t.Helper()
	both := make([]byte, len(a))
	for i := range both {
		both[i] = a[i] ^ b[i]
	}
	x, _ := Of(m, a)
	y, _ := Of(m, b)
	if got, e := Of(m, both); got != x^y || e != api.OK {
		t.Errorf("Of(%#x, %x) = %#x, %d; want %#x, the exclusive or of %#x and %#x", m, both, got, e, x^y, x, y)
	}
}

// windowOf returns the last 16 bytes of b, with zeros before the first ones.
func windowOf(b []byte) []byte {
	return join(same(16, 0), b)[len(b):]
}

// wantOf returns a fingerprint by a long division of the window's bits, written out one by one.
func wantOf(m uint64, b []byte) uint64 {
	var bits [128]uint64
	for i, next := range windowOf(b[max(0, len(b)-16):]) {
		for j := range 8 {
			bits[8*i+j] = uint64(next>>(7-j)) & 1
		}
	}
	d := 63
	for m>>d == 0 {
		d--
	}
	for i := range 128 - d {
		if bits[i] == 0 {
			continue
		}
		for j := range d + 1 {
			bits[i+j] ^= m >> (d - j) & 1
		}
	}
	rest := uint64(0)
	for _, bit := range bits[128-d:] {
		rest = rest<<1 | bit
	}
	return rest
}

// power returns the remainder of x to the power of n.
func power(n int, m uint64) uint64 {
	p := uint64(1)
	for range n {
		p, _ = gf2.Mul(p, 2, m)
	}
	return p
}

// rightPolynomials are of each degree from 9 to 53 those with the highest bit alone, with the highest and the lowest, with all, with all but the lowest, and two irreducible ones; and those of the vectors.
func rightPolynomials() []uint64 {
	list := []uint64{}
	for d := 9; d <= 53; d++ {
		list = append(list, 1<<d, 1<<d|1, 2<<d-1, 2<<d-2, 1<<d+firsts[d-9], 2<<d-lasts[d-9])
	}
	return append(list, fewPolynomials()...)
}

// fewPolynomials are those of the vectors: of degrees 9, 16, 32, 34 and 53.
func fewPolynomials() []uint64 {
	list := []uint64{}
	for _, v := range vectors {
		list = append(list, v.m)
	}
	return list
}

// wrongPolynomials are all of degrees less than 9, and of each degree from 54 on some, of which some are irreducible, and some are right ones but for their highest bit.
func wrongPolynomials() []uint64 {
	list := []uint64{math.MaxUint64 - 1, 1<<54 | 1<<9 | 1, 1<<54 | 1<<53 | 1, 1<<55 | 1<<7 | 1, 1<<63 | 1<<1 | 1, 1<<63 | 1<<32 | 1<<9}
	for m := range uint64(1 << 9) {
		list = append(list, m)
	}
	for d := 54; d <= 63; d++ {
		list = append(list, 1<<d, 1<<d|1, 2<<d-1, 1<<d|example, 1<<d|0x211)
	}
	return list
}

// join returns the parts, one behind the other, in memory of their own.
func join(parts ...[]byte) []byte { return bytes.Join(parts, nil) }

// same returns n times the byte b.
func same(n int, b byte) []byte { return bytes.Repeat([]byte{b}, n) }

// lone returns n bytes, all of them 0 but for one.
func lone(n, at int, b byte) []byte {
	all := make([]byte, n)
	all[at] = b
	return all
}

// rising returns n bytes that begin with 0 and rise by 1.
func rising(n int) []byte {
	b := make([]byte, n)
	for i := range b {
		b[i] = byte(i)
	}
	return b
}

// random returns n bytes without a pattern, the same ones in every run.
func random(n int) []byte { return randomFrom(rand.New(rand.NewPCG(13, 13)), n) }

func randomFrom(source *rand.Rand, n int) []byte {
	b := make([]byte, n)
	for i := range b {
		b[i] = byte(source.Uint32())
	}
	return b
}
