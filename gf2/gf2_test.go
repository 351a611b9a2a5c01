package gf2

import (
	"math"
	"math/rand/v2"
	"testing"

	"hypogeum/api"
)

const top = 1 << 63

// wrongSquares are numbers of squarings that are refused: some of them are right ones in their lowest byte, or in their lowest four.
var wrongSquares = []int{-1, -2, -63, -64, -65, -256, -1 << 31, -1 << 32, -1<<32 + 1, math.MinInt + 1, math.MinInt,
	65, 66, 127, 128, 255, 256, 257, 320, 1<<16 + 1, 1 << 31, 1<<32 - 1, 1 << 32, 1<<32 + 1, 1<<32 + 64, 1 << 53, math.MaxInt - 1, math.MaxInt}

// wrongDegrees are degrees that Find refuses.
var wrongDegrees = []int{-1, -2, -53, -54, -256, -254, -1 << 31, -1 << 32, -1<<32 + 2, math.MinInt + 1, math.MinInt, 0, 1,
	54, 55, 62, 63, 64, 65, 66, 117, 128, 255, 256, 258, 1<<16 + 8, 1 << 31, 1<<32 - 1, 1 << 32, 1<<32 + 2, 1<<32 + 53, 1 << 53, math.MaxInt - 1, math.MaxInt}

// lowTerms are irreducible polynomials of degrees 2 to 63 of few terms, as PARI/GP confirms: the powers of x in each, but for the 0.
var lowTerms = [][]int{{2, 1}, {3, 1}, {4, 1}, {5, 2}, {6, 1}, {7, 1}, {8, 4, 3, 1}, {9, 1}, {10, 3}, {11, 2}, {12, 3}, {13, 4, 3, 1}, {14, 5}, {15, 1}, {16, 5, 3, 1},
	{17, 3}, {18, 3}, {19, 5, 2, 1}, {20, 3}, {21, 2}, {22, 1}, {23, 5}, {24, 4, 3, 1}, {25, 3}, {26, 4, 3, 1}, {27, 5, 2, 1}, {28, 1}, {29, 2}, {30, 1}, {31, 3},
	{32, 7, 3, 2}, {33, 10}, {34, 7}, {35, 2}, {36, 9}, {37, 6, 4, 1}, {38, 6, 5, 1}, {39, 4}, {40, 5, 4, 3}, {41, 3}, {42, 7}, {43, 6, 4, 3}, {44, 5}, {45, 4, 3, 1},
	{46, 1}, {47, 5}, {48, 5, 3, 2}, {49, 9}, {50, 4, 3, 2}, {51, 6, 3, 1}, {52, 3}, {53, 6, 2, 1}, {54, 9}, {55, 7}, {56, 7, 4, 2}, {57, 4}, {58, 19}, {59, 7, 4, 2},
	{60, 1}, {61, 5, 2, 1}, {62, 29}, {63, 1}}

// firsts tells for each degree d from 2 on the first odd irreducible polynomial of that degree, less 2^d, and lasts 2^(d+1) less the last one; both are from PARI/GP, and so are the long numbers in the tables below.
var (
	firsts = []uint64{3, 3, 3, 5, 3, 3, 27, 3, 9, 5, 9, 27, 33, 3, 43, 9, 9, 39, 9, 5, 3, 33, 27, 9, 27, 39, 3, 5, 3, 9, 141, 75, 27, 5, 53, 63, 99, 17, 57, 9, 39, 89, 33, 27,
		3, 33, 45, 113, 29, 75, 9, 71, 125, 71, 149, 17, 99, 123, 3, 39, 105, 3}
	lasts = []uint64{1, 3, 1, 3, 11, 3, 7, 5, 1, 5, 1, 3, 25, 3, 19, 17, 1, 45, 7, 51, 19, 3, 13, 15, 31, 29, 1, 23, 115, 9, 11, 225, 31, 5, 1, 3, 13, 17, 73, 33, 37, 53, 59, 29,
		59, 3, 13, 17, 7, 43, 1, 27, 13, 15, 41, 123, 1, 27, 1, 113, 283, 3}
)

// P12.1: Degree

func TestDegree(t *testing.T) {
	for a, want := range []int{-1, 0, 1, 1, 2, 2, 2, 2, 3} {
		if got := Degree(uint64(a)); got != want {
			t.Errorf("Degree(%d) = %d", a, got)
		}
	}
	random := source()
	for d := range 64 {
		high := uint64(1) << d
		for _, a := range []uint64{high, high | 1, high | high>>1, 2*high - 1, high | random.Uint64()&(high-1)} {
			if got := Degree(a); got != d {
				t.Errorf("Degree(%#x) = %d, want %d", a, got, d)
			}
		}
	}
}

// P12.1: Mod

func TestMod(t *testing.T) {
	for _, c := range []struct {
		a, m, want uint64
	}{
		{0, 1, 0}, {1, 1, 0}, {math.MaxUint64, 1, 0}, {0, 2, 0}, {1, 2, 1}, {2, 2, 0}, {3, 2, 1}, {math.MaxUint64, 2, 1}, {math.MaxUint64, 3, 0}, {top, 3, 1}, {7, 3, 1}, {5, 7, 2}, {7, 7, 0}, {3, 7, 3}, {8, 7, 1},
		{0, top, 0}, {1, top, 1}, {top, top, 0}, {top | 5, top, 5}, {top - 1, top, top - 1}, {math.MaxUint64, top, top - 1}, {top, top | 1, 1}, {top, math.MaxUint64, top - 1}, {math.MaxUint64, math.MaxUint64, 0},
		{5, 0x11b, 5}, {0x11a, 0x11b, 1}, {0xff, 0x100, 0xff}, {0x1ff, 0x100, 0xff},
		{0xf0fcf4ad42c25d07, 0x9afd5e8f741718fe, 0x6a01aa2236d545f9}, {0xa2d117fb0bef6eac, 0x782ba40c371b7721, 0x2aadfbef52c2f7cf}, {0x8246d525b6587ce5, 0x1a1c6b021af46ce3, 0xeecf7393fc271b7},
		{0xfd519e2df3155c61, 0x3155e6de5bbb41, 0x82d6da03aae50}, {0xaa1e6813ad38ab00, 0x159fea617b5, 0xbad5241e62}, {0xc5fae75a5f566123, 0x2f7b2f5a8, 0x1ee20e40b},
		{0x9ce21647de7289db, 0x11314148f, 0xa23a9892}, {0xe7a5b7392acf6a3c, 0x199306, 0x2a1e6}, {0xd7989711aaa45754, 0x3a9, 0x6e}, {0xe41851505d1a220b, 0xd, 0x7},
	} {
		if got, e := Mod(c.a, c.m); got != c.want || e != api.OK {
			t.Errorf("Mod(%#x, %#x) = %#x, %d; want %#x", c.a, c.m, got, e, c.want)
		}
	}
}

func TestModOfAllCombinations(t *testing.T) {
	for _, a := range edges() {
		for _, m := range edges() {
			checkMod(t, a, m)
		}
	}
}

func TestModOfRandomPolynomials(t *testing.T) {
	random := source()
	for range 20000 {
		checkMod(t, anyLength(random), anyLength(random))
	}
}

// The remainder is the only polynomial of a lesser degree than m whose sum with a is a multiple of m.
func TestModAsItIsDefined(t *testing.T) {
	for m := uint64(1); m < 64; m++ {
		multiples := map[uint64]bool{}
		for q := range uint64(256) {
			_, multiple := product(q, m)
			multiples[multiple] = true
		}
		for a := range uint64(256) {
			found := 0
			for r := range uint64(1) << slowDegree(m) {
				if !multiples[a^r] {
					continue
				}
				found++
				if got, e := Mod(a, m); got != r || e != api.OK {
					t.Errorf("Mod(%#x, %#x) = %#x, %d; want %#x", a, m, got, e, r)
				}
			}
			if found != 1 {
				t.Fatalf("%d remainders of %#x modulo %#x", found, a, m)
			}
		}
	}
}

// P12.1: Mul

func TestMul(t *testing.T) {
	for _, c := range []struct {
		a, b, m, want uint64
	}{
		{2, 2, 7, 3}, {0x57, 0x83, 0x11b, 0xc1}, {0x57, 0x13, 0x11b, 0xfe}, {0, 5, 7, 0}, {5, 0, 7, 0}, {1, 5, 7, 2}, {5, 1, 7, 2}, {3, 3, 7, 2}, {3, 3, 15, 5}, {3, 5, 1, 0}, {math.MaxUint64, math.MaxUint64, 1, 0},
		{3, 3, 2, 1}, {3, 2, 2, 0}, {3, 2, 3, 0}, {2, 2, 3, 1}, {top, top, 2, 0}, {top, top, 3, 1}, {top, top, top, 0}, {top, top, top | 1, 1}, {top, 2, top | 1, 2}, {2, 1 << 62, top | 1, 1}, {2, 1 << 62, top, 0}, {4, 1 << 62, top | 1, 2},
		{0xf0f4d3ae9f4e6763, 0x811fe6320dfa6fdd, 0x83befdf5e76c07b2, 0x651f67c13227b009}, {0x941e16bd4d26ad8f, 0x1686fac88df3988c, 0xff7aad356d52c4a7, 0x32c46afc9217f8cb},
		{0xaee1633f9bf73772, 0x580e51097eecd613, 0x821d21eac46f8774, 0x5c89d144d8534ffa}, {0xbabe38f2287e61f2, 0x235e0cd1e9077f45, 0xbe06a425867a1fec, 0x672e0ba00346347e},
		{0x81f72c91e140ee5a, 0x332a819d5f9c800a, 0xb225, 0x7854}, {0x906f5339450f6393, 0x3ec6ac65f7fd3567, 0xa5dbf5, 0x5b0a92}, {0x8d735165420d4f8e, 0xe090572dc9e8f058, 0x91c28d53, 0x6dded0eb},
		{0x96c2c04fe2c6fe4d, 0x337a6f3129865b9f, 0xc1bc5fcf23, 0x52715baa86}, {0xd215bb87b573c5d, 0x664fa09fbd7f765c, 0xa5ea3b921ea67975, 0x755e1ff10e77909f},
		{0xb05c59d07221e006, 0x38c7cf656dc74385, 0x9756147f242454ab, 0x6d9cc18227dc71d3}, {0xa6cb4e78387cd29a, 0x7bc5b82b562f0ef9, 0xe9a3dc8a9ee8cc82, 0x7db2946a24c197b6},
		{0xf02000f5d8f110b0, 0x5113cfaa08ef54bd, 0x461045cec79db713, 0x28fdb3481ed7be29},
	} {
		if got, e := Mul(c.a, c.b, c.m); got != c.want || e != api.OK {
			t.Errorf("Mul(%#x, %#x, %#x) = %#x, %d; want %#x", c.a, c.b, c.m, got, e, c.want)
		}
	}
}

func TestMulOfAllCombinations(t *testing.T) {
	for _, a := range fewEdges() {
		for _, b := range fewEdges() {
			for _, m := range fewEdges() {
				checkMul(t, a, b, m)
			}
		}
	}
}

func TestMulOfSmallPolynomials(t *testing.T) {
	for a := range uint64(40) {
		for b := range uint64(40) {
			for m := range uint64(70) {
				checkMul(t, a, b, m)
			}
		}
	}
}

func TestMulOfRandomPolynomials(t *testing.T) {
	random := source()
	for range 20000 {
		checkMul(t, anyLength(random), anyLength(random), anyLength(random))
		checkMul(t, top|random.Uint64(), top|random.Uint64(), top|random.Uint64())
	}
}

// P12.1: Square

func TestSquare(t *testing.T) {
	for _, c := range []struct {
		a, m uint64
		n    int
		want uint64
	}{
		{2, 0x11b, 8, 2}, {2, 0x11b, 0, 2}, {2, 0x11b, 1, 4}, {2, 0x11b, 2, 16}, {2, 0x11b, 3, 0x1b}, {5, 7, 0, 2}, {5, 7, 1, 3}, {2, 4, 1, 0}, {2, 4, 64, 0}, {2, 2, 0, 0}, {3, 2, 64, 1}, {9, 1, 0, 0}, {9, 1, 64, 0}, {0, 7, 64, 0}, {1, top, 64, 1},
		{2, 5, 0, 2}, {2, 5, 1, 1}, {2, 5, 64, 1}, {2, 7, 63, 3}, {2, 7, 64, 2}, {2, 7, 1, 3}, {2, 7, 2, 2}, {top, top, 0, 0}, {top | 2, top, 1, 4}, {top - 1, top | 1, 0, top - 1},
		{0x427e1d395fda6cc2, 0x8d0ffc8b62d6b6c2, 1, 0x11f7f9cd6a764462}, {0xaa2f62323d35cd61, 0x87f086ea16f7e08b, 2, 0x10cedc1fa10e0328}, {0x7b43fa63c6854d3e, 0x30b668e180a9bc, 3, 0x86b71b8db4678},
		{0xee0a7eff3f445494, 0x62aefaa720599d3b, 8, 0x24eedf19336444ef}, {0x5dee42f0946a50a5, 0xdd8219521ebbac91, 17, 0x9846330d6319786}, {0xf2709a1513f4a5cd, 0x310, 32, 0x181},
		{0xa80cf8181ca6d594, 0x21973a21bc42dd, 53, 0xc2741bbbaec2}, {0xd7a313bdc4b46125, 0xdabf4f71d313aed5, 62, 0x5f7838e90b48170d}, {0x16bbdf8af189e051, 0xf85dc01814d73464, 63, 0x608d8ec0c9522f61},
		{0xfd2ac6b30a6615, 0x9d8e979d0d6ad2ab, 64, 0x175a79cdf151342e},
	} {
		if got, e := Square(c.a, c.m, c.n); got != c.want || e != api.OK {
			t.Errorf("Square(%#x, %#x, %d) = %#x, %d; want %#x", c.a, c.m, c.n, got, e, c.want)
		}
	}
}

func TestSquareOfAllCombinations(t *testing.T) {
	for _, a := range fewEdges() {
		for _, m := range fewEdges() {
			checkSquares(t, a, m)
		}
	}
}

func TestSquareOfRandomPolynomials(t *testing.T) {
	random := source()
	for range 500 {
		checkSquares(t, anyLength(random), anyLength(random))
		checkSquares(t, random.Uint64(), top|random.Uint64())
	}
}

// P12.1: Gcd

func TestGcd(t *testing.T) {
	for _, c := range []struct {
		a, b, want uint64
	}{
		{0, 0, 0}, {0, 1, 1}, {0, 2, 2}, {0, 6, 6}, {0, top, top}, {0, math.MaxUint64, math.MaxUint64}, {1, 1, 1}, {1, 2, 1}, {1, math.MaxUint64, 1}, {2, 3, 1}, {5, 3, 3}, {7, 5, 1}, {7, 9, 7}, {6, 10, 6}, {4, 6, 2}, {8, 20, 4},
		{top, top, top}, {top, 1 << 62, 1 << 62}, {top, 1, 1}, {top, 2, 2}, {top, top | 1, 1}, {top, top - 1, 1}, {top, math.MaxUint64, 1}, {math.MaxUint64, math.MaxUint64, math.MaxUint64}, {math.MaxUint64, 3, 3}, {math.MaxUint64, 1<<32 - 1, 1<<32 - 1},
		{0x936e66f2044e0deb, 0x66731010a0ced, 0x15}, {0xa94d90c17950a0b8, 0x42ca8b4cba170, 0x268}, {0x8fd2d4ec9a493fca, 0x678c16d9301ec, 0x1446}, {0xfe37b46925b4c346, 0x606167a431642, 0x1dc12},
		{0xd88b2361869e5c58, 0x47e3b8a6b670e, 0x2a27d2}, {0xe46096414b2820ec, 0x573b78c879ecc, 0x1da4b04}, {0xb64c8ea257e7f5fa, 0x5bcffc52ed5d2, 0x19b8a952}, {0x95a3ce42a62b34ee, 0x403e4a08a6fb2, 0x146b78e96},
	} {
		checkGcd(t, c.a, c.b, c.want)
	}
}

func TestGcdOfZeroEqualOnesAndMultiples(t *testing.T) {
	for _, a := range edges() {
		checkGcd(t, a, 0, a)
		checkGcd(t, a, a, a)
		for _, b := range edges() {
			if high, low := product(a, b); high == 0 && low != 0 {
				checkGcd(t, a, low, a)
			}
		}
	}
}

func TestGcdOfTwoWithNoCommonPart(t *testing.T) {
	all := irreducibles()
	for i, a := range all {
		for _, b := range all[:i] {
			checkGcd(t, a, b, 1)
		}
		checkGcd(t, a, 1, 1)
	}
}

// What two products have in common is their common parts, each as often as it is in both.
func TestGcdOfProducts(t *testing.T) {
	for _, c := range []struct {
		a, b, want []uint64
	}{
		{[]uint64{7, 11}, []uint64{7, 13}, []uint64{7}}, {[]uint64{7, 7, 11}, []uint64{7, 7, 7}, []uint64{7, 7}}, {[]uint64{2, 3, 7}, []uint64{3, 2, 11}, []uint64{2, 3}}, {[]uint64{2, 2, 2}, []uint64{3, 3, 3}, nil},
		{[]uint64{0x11b, 0x11b, 0x11b, 0x11b}, []uint64{0x11b, 0x11d, 7}, []uint64{0x11b}}, {[]uint64{low(31), low(32)}, []uint64{low(31), low(30)}, []uint64{low(31)}},
		{[]uint64{low(62), 2}, []uint64{2, 2, 2}, []uint64{2}}, {[]uint64{low(62), 2}, []uint64{3, low(62)}, []uint64{low(62)}}, {[]uint64{low(21), low(20), low(19)}, []uint64{low(19), low(21), 7, 11}, []uint64{low(19), low(21)}},
	} {
		checkGcd(t, times(c.a), times(c.b), times(c.want))
	}
}

// Gcd is the multiple of all common parts.
func TestGcdOfSmallPolynomialsAsItIsDefined(t *testing.T) {
	for a := range uint64(100) {
		for b := range a + 1 {
			greatest := uint64(0)
			for g := range max(a, b) + 1 {
				if g > 0 && rest(0, a, g) == 0 && rest(0, b, g) == 0 {
					greatest = g
				}
			}
			checkGcd(t, a, b, greatest)
		}
	}
}

func TestGcdOfRandomPolynomials(t *testing.T) {
	random := source()
	for range 20000 {
		a, b := anyLength(random), anyLength(random)
		checkGcd(t, a, b, slowGcd(a, b))
	}
	for _, a := range edges() {
		for _, b := range edges() {
			checkGcd(t, a, b, slowGcd(a, b))
		}
	}
}

// P12.1: ErrRange

func TestAllRefuseAModulusOfZero(t *testing.T) {
	for _, a := range edges() {
		if got, e := Mod(a, 0); got != 0 || e != api.ErrRange {
			t.Errorf("Mod(%#x, 0) = %#x, %d", a, got, e)
		}
		for _, b := range fewEdges() {
			if got, e := Mul(a, b, 0); got != 0 || e != api.ErrRange {
				t.Errorf("Mul(%#x, %#x, 0) = %#x, %d", a, b, got, e)
			}
		}
		for n := -1; n <= 65; n++ {
			checkNoSquare(t, a, 0, n)
		}
		for _, n := range wrongSquares {
			checkNoSquare(t, a, 0, n)
		}
	}
}

func TestSquareRefusesWrongNumbers(t *testing.T) {
	for _, n := range wrongSquares {
		for _, a := range fewEdges() {
			for _, m := range fewEdges() {
				checkNoSquare(t, a, m, n)
			}
		}
	}
}

// P12.2: Irreducible

func TestIrreducible(t *testing.T) {
	for _, m := range []uint64{2, 3, 7, 11, 13, 19, 25, 31, 37, 0x11b, 0x11d, 0x171, 0x3da3358b4dc173, top | 3,
		0xd79eae4825e9aa85, 0x8a75dcbd1873942b, 0x59876343e7785407, 0x39f129b161927f5f, 0x1fb2a1e8bbaa7b5b, 0xa2c70b1bb21e6a9,
		0x746e3e3b095018f, 0x2e04b1393488835, 0x1e54c9248e1c637, 0x9f8b3766d2721b, 0x6e320a0308cd1f, 0x22b00d5e6d6e63} {
		checkIrreducible(t, m, true)
	}
	for _, m := range []uint64{0, 1, 4, 5, 6, 8, 9, 10, 12, 14, 15, 21, 27, 0x100, 0x101, 0x11a, 0x1ff, top, top | 1, math.MaxUint64, math.MaxUint64 - 1} {
		checkIrreducible(t, m, false)
	}
	for _, m := range irreducibles() {
		checkIrreducible(t, m, true)
	}
}

func TestIrreducibleAgainstASearchForParts(t *testing.T) {
	for m := range uint64(1 << 12) {
		checkIrreducible(t, m, !hasParts(m) && m > 1)
	}
}

// How many polynomials of a degree are irreducible is known, by a formula of Gauss.
func TestHowManyAreIrreducible(t *testing.T) {
	for i, want := range []int{2, 1, 2, 3, 6, 9, 18, 30, 56, 99, 186, 335, 630, 1161} {
		got := 0
		for tail := range uint64(2) << i {
			if Irreducible(uint64(2)<<i | tail) {
				got++
			}
		}
		if got != want {
			t.Errorf("of degree %d, %d polynomials are irreducible, not %d", i+1, got, want)
		}
	}
}

func TestIrreducibleOfEdges(t *testing.T) {
	for _, m := range edges() {
		checkIrreducible(t, m, isIrreducible(m))
	}
}

func TestIrreducibleOfRandomPolynomials(t *testing.T) {
	random := source()
	both := map[bool]int{}
	for range 3000 {
		for _, m := range []uint64{anyLength(random), top | 1 | random.Uint64(), 1<<53 | 1 | random.Uint64()>>11} {
			want := isIrreducible(m)
			checkIrreducible(t, m, want)
			both[want]++
		}
	}
	if both[true] < 100 || both[false] < 100 {
		t.Error("too few of a sort:", both)
	}
}

func TestIrreducibleOfPolynomialsOfEveryDegree(t *testing.T) {
	for i := range firsts {
		d := i + 2
		checkIrreducible(t, first(d), true)
		checkIrreducible(t, last(d), true)
		for m := uint64(1)<<d + 1; m < first(d); m += 2 {
			checkIrreducible(t, m, false)
		}
		for m := uint64(2)<<d - 1; m > last(d); m -= 2 {
			checkIrreducible(t, m, false)
		}
		checkIrreducible(t, first(d)-1, false)
		checkIrreducible(t, last(d)-1, false)
	}
}

// P12.4: squares and products

func TestSquaresAreNotIrreducible(t *testing.T) {
	for a := uint64(2); a < 1<<10; a++ {
		checkIrreducible(t, times([]uint64{a, a}), false)
		checkIrreducible(t, times([]uint64{a, a, a, a}), false)
	}
	for _, a := range irreducibles() {
		for n := 2; n*slowDegree(a) <= 63; n++ {
			parts := make([]uint64, n)
			for i := range parts {
				parts[i] = a
			}
			checkIrreducible(t, times(parts), false)
		}
	}
}

func TestProductsOfTwoAreNotIrreducible(t *testing.T) {
	eachPair(irreducibles(), func(a, b uint64) {
		checkIrreducible(t, times([]uint64{a, b}), false)
	})
	eachPair(edges(), func(a, b uint64) {
		if high, low := product(a, b); high == 0 && a > 1 && b > 1 {
			checkIrreducible(t, low, false)
		}
	})
	random := source()
	for range 20000 {
		a := anyLength(random)
		b := random.Uint64() >> max(1, slowDegree(a))
		if a > 1 && b > 1 {
			checkIrreducible(t, times([]uint64{a, b}), false)
		}
	}
}

func TestProductsOfSeveralAreNotIrreducible(t *testing.T) {
	random := source()
	all := irreducibles()
	for range 5000 {
		var parts []uint64
		left := 63
		for {
			p := all[random.IntN(len(all))]
			if slowDegree(p) > left {
				break
			}
			parts = append(parts, p)
			left -= slowDegree(p)
		}
		if len(parts) > 1 {
			checkIrreducible(t, times(parts), false)
		}
	}
}

// If all parts differ, and the degree of each divides that of the product, x squared as many times as the degree says is x again, as it is for an irreducible polynomial.
func TestProductsThatLookIrreducible(t *testing.T) {
	check := func(parts []uint64) {
		m := times(parts)
		checkIrreducible(t, m, false)
		if got, e := Square(2, m, slowDegree(m)); got != rest(0, 2, m) || e != api.OK {
			t.Errorf("the product of %#x does not look irreducible: %#x, %d", parts, got, e)
		}
	}
	for d := 1; d <= 31; d++ {
		some := someOfDegree(d, 63/d)
		for n := 2; n <= len(some); n++ {
			check(some[:n])
		}
	}
	for _, degrees := range [][]int{{1, 2, 3}, {1, 1, 2}, {1, 1, 2, 4}, {1, 2, 3, 6}, {2, 4, 6}, {1, 4, 5, 10}, {4, 8, 12}, {6, 12, 18}, {7, 14, 21}, {9, 18, 27}, {10, 20, 30}, {3, 10, 12, 15, 20}, {3, 9, 9, 21, 21}} {
		var parts []uint64
		used := map[int]int{}
		for _, d := range degrees {
			parts = append(parts, someOfDegree(d, 2)[used[d]])
			used[d]++
		}
		check(parts)
	}
}

// P12.2: Find

func TestFind(t *testing.T) {
	for _, c := range []struct {
		seed   uint64
		degree int
		want   uint64
	}{
		{0, 2, 7}, {1, 2, 7}, {2, 2, 7}, {0, 3, 11}, {1, 3, 11}, {2, 3, 13}, {3, 3, 11}, {4, 3, 11}, {6, 3, 13}, {0, 4, 19}, {0, 8, 0x11b}, {13, 8, 0x11b}, {14, 8, 0x11d}, {math.MaxUint64, 8, 0x11b},
		{0x263768e3ff387306, 2, 0x7}, {0x5bde42727f42fc9a, 3, 0xd}, {0x4f89c987173ea501, 5, 0x25}, {0xc83fdbbc5ff071dd, 8, 0x1bd}, {0x7cbdb297c7143aa7, 9, 0x34f}, {0x45ae6c61af82bbb2, 16, 0x17781},
		{0xbdd8b7e4d5b3f4ae, 24, 0x167e9b7}, {0x65e7a7a1e3dc83bc, 32, 0x1c7b90801}, {0xf111890d9d5b3129, 40, 0x11b3ab66337}, {0xf89692a5116f6c9f, 48, 0x1254a22ded96b}, {0xc50b277f9cfe61a7, 50, 0x64eff39fcc3ad},
		{0xb1431a2e88b28003, 52, 0x16345d11650063}, {0xc383347e99d3b1b7, 53, 0x2668fd33a76383}, {0xf16cf31cf8a3108e, 53, 0x39e639f146211d},
	} {
		if got, e := Find(c.seed, c.degree); got != c.want || e != api.OK {
			t.Errorf("Find(%#x, %d) = %#x, %d; want %#x", c.seed, c.degree, got, e, c.want)
		}
	}
}

func TestFindRefusesWrongDegrees(t *testing.T) {
	for _, degree := range wrongDegrees {
		for _, seed := range edges() {
			if got, e := Find(seed, degree); got != 0 || e != api.ErrRange {
				t.Errorf("Find(%#x, %d) = %#x, %d", seed, degree, got, e)
			}
		}
	}
}

func TestFindOfAllSeedsOfSmallDegrees(t *testing.T) {
	for degree := 2; degree <= 9; degree++ {
		for seed := range uint64(3) << (degree - 1) {
			checkFind(t, seed, degree)
		}
	}
}

func TestFindOfEveryDegree(t *testing.T) {
	random := source()
	for degree := 2; degree <= 53; degree++ {
		count := uint64(1) << (degree - 1)
		for _, seed := range []uint64{0, 1, 2, count / 2, count - 2, count - 1, count, count + 1, 2*count - 1, 2 * count, 2*count + 1, 5 * count, top - 1, top, top + 1, math.MaxUint64 - 1, math.MaxUint64} {
			checkFind(t, seed, degree)
		}
		for range 5 {
			checkFind(t, random.Uint64(), degree)
		}
	}
}

// The sequence goes past its last number from every seed behind the last irreducible polynomial.
func TestFindGoesOnWithTheFirstNumber(t *testing.T) {
	for degree := 2; degree <= 53; degree++ {
		count := uint64(1) << (degree - 1)
		behind := count - (lasts[degree-2]-1)/2
		if got, e := Find(behind-1, degree); got != last(degree) || e != api.OK {
			t.Errorf("Find(%#x, %d) = %#x, %d; want the last one, %#x", behind-1, degree, got, e, last(degree))
		}
		for seed := behind; seed < count; seed++ {
			for _, more := range []uint64{0, count, -count} {
				if got, e := Find(seed+more, degree); got != first(degree) || e != api.OK {
					t.Errorf("Find(%#x, %d) = %#x, %d; want the first one, %#x", seed+more, degree, got, e, first(degree))
				}
			}
		}
		for seed := range (firsts[degree-2] + 1) / 2 {
			if got, e := Find(seed, degree); got != first(degree) || e != api.OK {
				t.Errorf("Find(%#x, %d) = %#x, %d; want the first one, %#x", seed, degree, got, e, first(degree))
			}
		}
	}
}

// P12.3

func TestTheRemainderOfASumIsTheSumOfTheRemainders(t *testing.T) {
	eachTriple(func(a, b, c, m uint64) {
		if must(Mod(a^b, m)) != must(Mod(a, m))^must(Mod(b, m)) || must(Mod(a^b^c, m)) != must(Mod(a, m))^must(Mod(b, m))^must(Mod(c, m)) {
			t.Errorf("the remainders of %#x, %#x and %#x modulo %#x", a, b, c, m)
		}
		if must(Square(a^b, m, 1)) != must(Square(a, m, 1))^must(Square(b, m, 1)) {
			t.Errorf("the squares of %#x and %#x modulo %#x", a, b, m)
		}
	})
}

func TestMultiplicationIsCommutativeAndAssociativeAndDistributes(t *testing.T) {
	eachTriple(func(a, b, c, m uint64) {
		ab := must(Mul(a, b, m))
		if ab != must(Mul(b, a, m)) {
			t.Errorf("%#x times %#x modulo %#x, and the other way", a, b, m)
		}
		if must(Mul(ab, c, m)) != must(Mul(a, must(Mul(b, c, m)), m)) {
			t.Errorf("%#x times %#x times %#x modulo %#x", a, b, c, m)
		}
		if must(Mul(a, b^c, m)) != ab^must(Mul(a, c, m)) || must(Mul(a^c, b, m)) != ab^must(Mul(c, b, m)) {
			t.Errorf("a product of a sum: %#x, %#x, %#x modulo %#x", a, b, c, m)
		}
		if must(Mul(a, a, m)) != must(Square(a, m, 1)) || must(Mul(a, 1, m)) != must(Mod(a, m)) {
			t.Errorf("%#x times itself, or times 1, modulo %#x", a, m)
		}
	})
}

// P12.5

func TestSquaringAsManyTimesAsTheDegreeSays(t *testing.T) {
	random := source()
	for _, m := range irreducibles() {
		d := slowDegree(m)
		x := must(Mod(2, m))
		if got := must(Square(2, m, d)); got != x {
			t.Errorf("x squared %d times modulo %#x is %#x", d, m, got)
		}
		for n := 1; n < d; n++ {
			if got := must(Square(2, m, n)); got == x {
				t.Errorf("x squared %d times modulo %#x is x", n, m)
			}
		}
		a := random.Uint64()
		if got := must(Square(a, m, d)); got != must(Mod(a, m)) {
			t.Errorf("%#x squared %d times modulo %#x is %#x", a, d, m, got)
		}
	}
	for degree := 2; degree <= 53; degree++ {
		m := must(Find(random.Uint64(), degree))
		if got := must(Square(2, m, degree)); got != 2 {
			t.Errorf("x squared %d times modulo %#x is %#x", degree, m, got)
		}
	}
}

// What a call returns depends on its arguments alone.

func TestCallsAreIndependent(t *testing.T) {
	random := source()
	for range 300 {
		a, b, m := anyLength(random), anyLength(random), anyLength(random)|1
		n, degree := random.IntN(65), 2+random.IntN(52)
		call := func() [6]uint64 {
			irreducible := uint64(0)
			if Irreducible(m) {
				irreducible = 1
			}
			return [6]uint64{must(Mod(a, m)), must(Mul(a, b, m)), must(Square(a, m, n)), Gcd(a, b), must(Find(a, degree)), irreducible}
		}
		once := call()
		Mul(b, a, 0)
		Square(a, m, -1)
		Find(b, 54)
		if again := call(); again != once {
			t.Errorf("of %#x, %#x, %#x: %#x, then %#x", a, b, m, once, again)
		}
	}
}

// The checks

func checkMod(t *testing.T, a, m uint64) {
	t.Helper()
	want, errno := uint64(0), api.ErrRange
	if m != 0 {
		want, errno = rest(0, a, m), api.OK
	}
	if got, e := Mod(a, m); got != want || e != errno {
		t.Errorf("Mod(%#x, %#x) = %#x, %d; want %#x, %d", a, m, got, e, want, errno)
	}
}

func checkMul(t *testing.T, a, b, m uint64) {
	t.Helper()
	want, errno := uint64(0), api.ErrRange
	if m != 0 {
		high, low := product(a, b)
		want, errno = rest(high, low, m), api.OK
	}
	if got, e := Mul(a, b, m); got != want || e != errno {
		t.Errorf("Mul(%#x, %#x, %#x) = %#x, %d; want %#x, %d", a, b, m, got, e, want, errno)
	}
}

// checkSquares checks all numbers of squarings from -1 to 65.
func checkSquares(t *testing.T, a, m uint64) {
	t.Helper()
	checkNoSquare(t, a, m, -1)
	checkNoSquare(t, a, m, 65)
	if m == 0 {
		return
	}
	want := rest(0, a, m)
	for n := range 65 {
		if got, e := Square(a, m, n); got != want || e != api.OK {
			t.Errorf("Square(%#x, %#x, %d) = %#x, %d; want %#x", a, m, n, got, e, want)
		}
		high, low := product(want, want)
		want = rest(high, low, m)
	}
}

func checkNoSquare(t *testing.T, a, m uint64, n int) {
	t.Helper()
	if got, e := Square(a, m, n); got != 0 || e != api.ErrRange {
		t.Errorf("Square(%#x, %#x, %d) = %#x, %d", a, m, n, got, e)
	}
}

// checkGcd checks both orders.
func checkGcd(t *testing.T, a, b, want uint64) {
	t.Helper()
	if got := Gcd(a, b); got != want {
		t.Errorf("Gcd(%#x, %#x) = %#x, want %#x", a, b, got, want)
	}
	if got := Gcd(b, a); got != want {
		t.Errorf("Gcd(%#x, %#x) = %#x, want %#x", b, a, got, want)
	}
}

func checkIrreducible(t *testing.T, m uint64, want bool) {
	t.Helper()
	if got := Irreducible(m); got != want {
		t.Errorf("Irreducible(%#x) = %v", m, got)
	}
}

// checkFind holds Find against a search that tries the numbers one by one.
func checkFind(t *testing.T, seed uint64, degree int) {
	t.Helper()
	first, last := uint64(1)<<degree+1, uint64(2)<<degree-1
	want := first + 2*(seed%(1<<(degree-1)))
	for !isIrreducible(want) {
		if want == last {
			want = first
		} else {
			want += 2
		}
	}
	if got, e := Find(seed, degree); got != want || e != api.OK {
		t.Errorf("Find(%#x, %d) = %#x, %d; want %#x", seed, degree, got, e, want)
	}
}

// A second implementation, whose products have 128 bits

// slowDegree returns the greatest i whose bit is set, or -1.
func slowDegree(a uint64) int {
	for i := 63; i >= 0; i-- {
		if a&(1<<i) != 0 {
			return i
		}
	}
	return -1
}

// product returns all bits of a product, the upper and the lower ones.
func product(a, b uint64) (uint64, uint64) {
	high, low := uint64(0), uint64(0)
	for i := range 64 {
		if b&(1<<i) != 0 {
			high ^= a >> (64 - i)
			low ^= a << i
		}
	}
	return high, low
}

// rest returns the remainder of a polynomial of 128 bits.
func rest(high, low, m uint64) uint64 {
	d := slowDegree(m)
	for i := 63; i >= 0; i-- {
		if high&(1<<i) != 0 {
			shift := 64 + i - d
			if shift >= 64 {
				high ^= m << (shift - 64)
			} else {
				high ^= m >> (64 - shift)
				low ^= m << shift
			}
		}
	}
	for i := 63; i >= d; i-- {
		if low&(1<<i) != 0 {
			low ^= m << (i - d)
		}
	}
	return low
}

// slowGcd subtracts multiples of the one of the lesser degree.
func slowGcd(a, b uint64) uint64 {
	for a != 0 && b != 0 {
		if slowDegree(a) >= slowDegree(b) {
			a ^= b << (slowDegree(a) - slowDegree(b))
		} else {
			b ^= a << (slowDegree(b) - slowDegree(a))
		}
	}
	return a | b
}

// hasParts reports whether a polynomial of a degree of at least 1 but less than its own divides m.
func hasParts(m uint64) bool {
	for p := uint64(2); 2*slowDegree(p) <= slowDegree(m); p++ {
		if rest(0, m, p) == 0 {
			return true
		}
	}
	return false
}

// isIrreducible reports by Berlekamp's method whether m is irreducible: no part is in it twice, and only 0 and 1 are their own squares.
func isIrreducible(m uint64) bool {
	d := slowDegree(m)
	if d < 2 {
		return d == 1
	}
	if slowGcd(m, (m>>1)&0x5555555555555555) != 1 {
		return false
	}
	rank := 0
	var rows [64]uint64
	for i := range d {
		high, low := product(1<<i, 1<<i)
		row := rest(high, low, m) ^ 1<<i
		for row != 0 && rows[slowDegree(row)] != 0 {
			row ^= rows[slowDegree(row)]
		}
		if row != 0 {
			rows[slowDegree(row)] = row
			rank++
		}
	}
	return rank == d-1
}

// What is checked

// edges are 0, and of every degree the polynomials with the highest bit alone, with the highest and the lowest, and with all.
func edges() []uint64 {
	list := []uint64{0, 1, 2, 3}
	for d := 2; d < 64; d++ {
		list = append(list, 1<<d, 1<<d|1, 2<<d-1)
	}
	return list
}

func fewEdges() []uint64 {
	return []uint64{0, 1, 2, 3, 4, 5, 7, 0x11b, 0xff, 0x100, 1<<31 | 1, 1<<32 - 1, 1 << 32, 0x3da3358b4dc173, 1 << 53, 1 << 62, 1<<62 | 1, 1<<63 - 1, top, top | 1, top | 2, top | 3, 0xaaaaaaaaaaaaaaaa, 0x5555555555555555, math.MaxUint64 - 1, math.MaxUint64}
}

// irreducibles are irreducible polynomials of all degrees up to 63, three of most, and each of them once.
func irreducibles() []uint64 {
	list := []uint64{2, 3}
	for i := range lowTerms {
		d := i + 2
		list = append(list, low(d))
		if first(d) != low(d) {
			list = append(list, first(d))
		}
		if last(d) != low(d) && last(d) != first(d) {
			list = append(list, last(d))
		}
	}
	return list
}

func low(d int) uint64 {
	m := uint64(1)
	for _, i := range lowTerms[d-2] {
		m |= 1 << i
	}
	return m
}

func first(d int) uint64 {
	return 1<<d + firsts[d-2]
}

func last(d int) uint64 {
	return 2<<d - lasts[d-2]
}

// someOfDegree returns up to n irreducible polynomials of a degree.
func someOfDegree(d, n int) []uint64 {
	var list []uint64
	for m := uint64(1) << d; m < 2<<d && len(list) < n; m++ {
		if isIrreducible(m) {
			list = append(list, m)
		}
	}
	return list
}

// times returns a product, which has to have at most 64 bits.
func times(parts []uint64) uint64 {
	all := uint64(1)
	for _, p := range parts {
		high, low := product(all, p)
		if high != 0 {
			panic("a product of more than 64 bits")
		}
		all = low
	}
	return all
}

// eachPair goes through all pairs whose product has at most 64 bits.
func eachPair(list []uint64, do func(a, b uint64)) {
	for i, a := range list {
		for _, b := range list[:i+1] {
			if slowDegree(a)+slowDegree(b) <= 63 {
				do(a, b)
			}
		}
	}
}

// eachTriple goes through triples and a modulus for each, which is not 0.
func eachTriple(do func(a, b, c, m uint64)) {
	random := source()
	few := fewEdges()
	for range 20000 {
		do(few[random.IntN(len(few))], few[random.IntN(len(few))], few[random.IntN(len(few))], few[1+random.IntN(len(few)-1)])
		do(anyLength(random), anyLength(random), anyLength(random), 1<<random.IntN(64)|anyLength(random))
		do(random.Uint64(), random.Uint64(), random.Uint64(), top|random.Uint64())
	}
}

// anyLength returns a polynomial of any degree, each as likely as another.
func anyLength(random *rand.Rand) uint64 {
	return random.Uint64() >> random.IntN(65)
}

// source returns numbers that are the same in every run.
func source() *rand.Rand {
	return rand.New(rand.NewPCG(12, 12))
}

// must returns a polynomial that there has to be.
func must(a uint64, e api.Errno) uint64 {
	if e != api.OK {
		panic("no polynomial")
	}
	return a
}
