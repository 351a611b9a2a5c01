package span

import (
	"math"
	"math/big"
	"math/cmplx"
	"math/rand/v2"
	"slices"
	"testing"

	"hypogeum/api"
)

// limit is 2^40, which a start, a length and the end of a row may be, but not exceed.
const limit = 1 << 40

// negativeZero is -0, which no constant is.
var negativeZero = math.Copysign(0, -1)

// rightParts are parts of spans.
var rightParts = []float64{0, negativeZero, 1, 2, 3, 255, 256, 1<<31 - 1, 1 << 31, 1 << 32, 1<<32 + 1, 1 << 39, limit - 2, limit - 1, limit}

// wrongParts are not: some are integers that are too great or negative, and some would be right if a fraction, a sign or high bits were lost.
var wrongParts = []float64{limit + 1, limit + 2, limit + 0.5, math.Nextafter(limit, math.Inf(1)), 1 << 41, 1<<53 - 1, 1 << 53, 1<<53 + 2, 1 << 62, 1 << 63, 1<<63 + 1<<11, 1 << 64, 1<<64 + 1<<12, 1 << 80, 1e300, math.MaxFloat64,
	-1, -2, -256, -limit, -limit - 1, -1 << 53, -1 << 63, -1<<63 - 1<<11, -1 << 64, -math.MaxFloat64,
	0.5, 0.25, 1.5, 2.75, 1e-9, math.SmallestNonzeroFloat64, -math.SmallestNonzeroFloat64, -0.5, -1.5, limit - 0.5, limit - 1.0/4096, math.Nextafter(limit, 0), math.Nextafter(1, 0), math.Nextafter(1, 2), 1<<32 + 0.5,
	math.Inf(1), math.Inf(-1), math.NaN()}

// wrongInts are numbers that are neither a start nor a length: some of them are right ones in their lowest bytes.
var wrongInts = []int{-1, -2, -limit, -limit - 1, -1 << 53, -1 << 62, math.MinInt + 1, math.MinInt, math.MinInt + limit,
	limit + 1, limit + 2, 2 * limit, 1<<41 + 1, 1 << 53, 1 << 62, math.MaxInt - limit, math.MaxInt - 1, math.MaxInt}

// rightInts are starts and lengths.
var rightInts = []int{0, 1, 2, 3, 255, 256, 1<<31 - 1, 1 << 31, 1<<32 - 1, 1 << 32, 1<<32 + 1, 1 << 39, limit - 2, limit - 1, limit}

// P15.1: Right

func TestRight(t *testing.T) {
	for _, c := range []struct {
		s    complex128
		want bool
	}{
		{0, true}, {1, true}, {1i, true}, {3 + 4i, true}, {limit, true}, {limit * 1i, true}, {limit + limit*1i, true}, {complex(negativeZero, negativeZero), true},
		{complex(negativeZero, 5), true}, {complex(5, negativeZero), true},
		{limit + 1, false}, {(limit + 1) * 1i, false}, {limit + (limit+1)*1i, false}, {-1, false}, {-1i, false}, {3 - 4i, false}, {-3 + 4i, false}, {0.5, false}, {0.5i, false}, {3 + 4.5i, false}, {3.5 + 4i, false},
		{cmplx.Inf(), false}, {cmplx.NaN(), false}, {complex(math.Inf(-1), 0), false}, {complex(0, math.NaN()), false},
	} {
		if got := Right(c.s); got != c.want {
			t.Errorf("Right(%v) = %v", c.s, got)
		}
	}
}

func TestRightOfAllCombinations(t *testing.T) {
	for _, a := range rightParts {
		for _, b := range rightParts {
			if !Right(complex(a, b)) {
				t.Errorf("Right(%v, %v) = false", a, b)
			}
		}
	}
	for _, s := range wrongNumbers() {
		if Right(s) {
			t.Errorf("Right(%v) = true", s)
		}
	}
}

func TestRightOfRandomNumbers(t *testing.T) {
	random := source()
	right := 0
	for range 50000 {
		s := complex(anyFloat(random), anyFloat(random))
		want := wantIntegral(real(s)) && wantIntegral(imag(s))
		if Right(s) != want {
			t.Errorf("Right(%v) = %v", s, !want)
		}
		if want {
			right++
		}
	}
	if right < 5000 || right > 45000 {
		t.Errorf("%d of the random numbers are spans", right)
	}
}

// P15.1: Of

func TestOf(t *testing.T) {
	for _, c := range []struct {
		begin, size int
		want        complex128
	}{
		{0, 0, 0}, {3, 4, 3 + 4i}, {0, 5, 5i}, {5, 0, 5}, {limit, limit, limit + limit*1i}, {limit - 1, 1, limit - 1 + 1i}, {1, limit - 1, 1 + (limit-1)*1i},
		{123456789012, 987654321098, 123456789012 + 987654321098i},
	} {
		if got, e := Of(c.begin, c.size); got != c.want || e != api.OK {
			t.Errorf("Of(%d, %d) = %v, %d", c.begin, c.size, got, e)
		}
	}
}

func TestOfAllCombinations(t *testing.T) {
	for _, begin := range slices.Concat(rightInts, wrongInts) {
		for _, size := range slices.Concat(rightInts, wrongInts) {
			got, e := Of(begin, size)
			if slices.Contains(wrongInts, begin) || slices.Contains(wrongInts, size) {
				if got != 0 || e != api.ErrRange {
					t.Errorf("Of(%d, %d) = %v, %d", begin, size, got, e)
				}
				continue
			}
			if real(got) != float64(begin) || imag(got) != float64(size) || e != api.OK {
				t.Errorf("Of(%d, %d) = %v, %d", begin, size, got, e)
			}
			checkSpan(t, got)
		}
	}
}

// P15.1: Parts

func TestParts(t *testing.T) {
	for _, c := range []struct {
		s           complex128
		begin, size int
	}{
		{0, 0, 0}, {3 + 4i, 3, 4}, {5i, 0, 5}, {5, 5, 0}, {limit + limit*1i, limit, limit}, {limit - 1 + 1i, limit - 1, 1}, {complex(negativeZero, 2), 0, 2}, {complex(2, negativeZero), 2, 0},
		{123456789012 + 987654321098i, 123456789012, 987654321098},
	} {
		if begin, size, e := Parts(c.s); begin != c.begin || size != c.size || e != api.OK {
			t.Errorf("Parts(%v) = %d, %d, %d", c.s, begin, size, e)
		}
	}
}

func TestPartsOfAllCombinations(t *testing.T) {
	for _, begin := range rightInts {
		for _, size := range rightInts {
			s := span(begin, size)
			if gotBegin, gotSize, e := Parts(s); gotBegin != begin || gotSize != size || e != api.OK {
				t.Errorf("Parts(%v) = %d, %d, %d", s, gotBegin, gotSize, e)
			}
		}
	}
	for _, s := range wrongNumbers() {
		if begin, size, e := Parts(s); begin != 0 || size != 0 || e != api.ErrArg {
			t.Errorf("Parts(%v) = %d, %d, %d", s, begin, size, e)
		}
	}
}

// P15.1: End

func TestEnd(t *testing.T) {
	for _, c := range []struct {
		s    complex128
		want int
	}{
		{0, 0}, {3 + 4i, 7}, {5i, 5}, {5, 5}, {limit, limit}, {limit * 1i, limit}, {limit - 1 + 1i, limit}, {limit + 1i, limit + 1}, {1 + limit*1i, limit + 1}, {limit + limit*1i, 2 * limit},
		{complex(negativeZero, negativeZero), 0}, {complex(negativeZero, 2), 2}, {123456789012 + 987654321098i, 1111111110110},
	} {
		if got, e := End(c.s); got != c.want || e != api.OK {
			t.Errorf("End(%v) = %d, %d", c.s, got, e)
		}
	}
}

func TestEndOfAllCombinations(t *testing.T) {
	for _, begin := range rightInts {
		for _, size := range rightInts {
			if got, e := End(span(begin, size)); got != begin+size || e != api.OK {
				t.Errorf("End of %d, %d = %d, %d", begin, size, got, e)
			}
		}
	}
	for _, s := range wrongNumbers() {
		if got, e := End(s); got != 0 || e != api.ErrArg {
			t.Errorf("End(%v) = %d, %d", s, got, e)
		}
	}
}

// P15.1: Move

func TestMove(t *testing.T) {
	for _, c := range []struct {
		s    complex128
		by   int
		want complex128
		e    api.Errno
	}{
		{3 + 4i, 0, 3 + 4i, api.OK}, {3 + 4i, 2, 5 + 4i, api.OK}, {3 + 4i, -2, 1 + 4i, api.OK}, {3 + 4i, -3, 4i, api.OK}, {3 + 4i, -4, 0, api.ErrRange},
		{3 + 4i, limit - 3, limit + 4i, api.OK}, {3 + 4i, limit - 2, 0, api.ErrRange}, {3 + 4i, limit, 0, api.ErrRange},
		{0, 0, 0, api.OK}, {0, limit, limit, api.OK}, {0, limit + 1, 0, api.ErrRange}, {0, -1, 0, api.ErrRange}, {limit, -limit, 0, api.OK}, {limit, -limit - 1, 0, api.ErrRange}, {limit, 1, 0, api.ErrRange}, {limit, 0, limit, api.OK},
		{limit * 1i, limit, limit + limit*1i, api.OK}, {limit + limit*1i, -limit, limit * 1i, api.OK}, {5, -5, 0, api.OK}, {complex(negativeZero, 2), 0, 2i, api.OK}, {complex(negativeZero, negativeZero), 7, 7, api.OK},
		{3 + 4i, math.MaxInt, 0, api.ErrRange}, {3 + 4i, math.MaxInt - 2, 0, api.ErrRange}, {3 + 4i, math.MaxInt - 3, 0, api.ErrRange}, {3 + 4i, math.MinInt, 0, api.ErrRange}, {0, math.MinInt, 0, api.ErrRange},
		{limit, math.MaxInt, 0, api.ErrRange}, {limit, math.MinInt, 0, api.ErrRange}, {limit, math.MinInt + limit, 0, api.ErrRange},
	} {
		if got, e := Move(c.s, c.by); got != c.want || e != c.e {
			t.Errorf("Move(%v, %d) = %v, %d", c.s, c.by, got, e)
		}
	}
}

func TestMoveOfAllCombinations(t *testing.T) {
	for _, begin := range rightInts {
		for _, size := range rightInts {
			for _, by := range distances(begin) {
				checkMove(t, begin, size, by)
			}
		}
	}
	// What is no span is reported before a distance that leads out of the range.
	for _, s := range wrongNumbers() {
		for _, by := range []int{0, 1, -1, limit, limit + 1, -limit, math.MaxInt, math.MinInt} {
			if got, e := Move(s, by); got != 0 || e != api.ErrArg {
				t.Errorf("Move(%v, %d) = %v, %d", s, by, got, e)
			}
		}
	}
}

// P15.2: Meet

func TestMeet(t *testing.T) {
	for _, c := range []struct {
		a, b, want complex128
		ok         bool
	}{
		{2 + 4i, 4 + 9i, 4 + 2i, true}, {2 + 2i, 4 + 9i, 0, false}, {2 + 3i, 4 + 9i, 4 + 1i, true}, {2 + 1i, 4 + 9i, 0, false}, {2 + 9i, 4 + 3i, 4 + 3i, true}, {2 + 9i, 2 + 3i, 2 + 3i, true}, {2 + 9i, 8 + 3i, 8 + 3i, true},
		{2 + 9i, 2 + 9i, 2 + 9i, true}, {1i, 1i, 1i, true}, {3i, 1 + 1i, 1 + 1i, true}, {complex(negativeZero, 3), 2i, 2i, true}, {complex(negativeZero, 3), complex(negativeZero, 3), 3i, true},
		{0, 0, 0, false}, {0, 5i, 0, false}, {2, 5i, 0, false}, {5, 5i, 0, false}, {6, 5i, 0, false}, {2, 2, 0, false}, {2, 2 + 5i, 0, false}, {limit, limit + 5i, 0, false}, {limit, limit * 1i, 0, false},
		{limit + 5i, limit + 3i, limit + 3i, true}, {limit + limit*1i, limit + limit*1i, limit + limit*1i, true}, {limit + limit*1i, limit * 1i, 0, false}, {limit * 1i, limit*1i + 1, 1 + (limit-1)*1i, true},
		{limit - 1 + 3i, limit + 3i, limit + 2i, true}, {limit - 1 + 1i, limit + 3i, 0, false}, {limit*1i + 1, limit + 1i, limit + 1i, true}, {limit * 1i, limit + 1i, 0, false},
		{730386717054 + 836811188957i, 921227677069 + 684813780228i, 921227677069 + 645970228942i, true}, {31718820830 + 768432460469i, 459568236156 + 313544720472i, 459568236156 + 313544720472i, true},
		{546538892973 + 728050958965i, 892656979969 + 702192493302i, 892656979969 + 381932871969i, true}, {748291130163 + 132824412926i, 773439337690 + 240286789849i, 773439337690 + 107676205399i, true},
		{736153640892 + 282856114550i, 789134811804 + 752972835157i, 789134811804 + 229874943638i, true}, {1063508932969 + 863810332147i, 1066004684646 + 342940066885i, 1066004684646 + 342940066885i, true},
	} {
		if got, ok := Meet(c.a, c.b); got != c.want || ok != c.ok {
			t.Errorf("Meet(%v, %v) = %v, %v", c.a, c.b, got, ok)
		}
		if got, ok := Meet(c.b, c.a); got != c.want || ok != c.ok {
			t.Errorf("Meet(%v, %v) = %v, %v", c.b, c.a, got, ok)
		}
	}
}

// A number that is no span meets nothing, not even itself.
func TestMeetOfNoSpan(t *testing.T) {
	for _, s := range wrongNumbers() {
		for _, other := range []complex128{0, 5i, 3 + 4i, limit * 1i, limit + limit*1i, s} {
			if got, ok := Meet(s, other); got != 0 || ok {
				t.Errorf("Meet(%v, %v) = %v, %v", s, other, got, ok)
			}
			if got, ok := Meet(other, s); got != 0 || ok {
				t.Errorf("Meet(%v, %v) = %v, %v", other, s, got, ok)
			}
		}
	}
}

// All short spans at both ends of what a start may be, byte by byte.
func TestMeetByteByByte(t *testing.T) {
	for _, from := range []int{0, 1000, 1 << 32, limit - 6} {
		for a := range 7 * 7 * 7 * 7 {
			checkMeetByteByByte(t, span(from+a%7, a/7%7), span(from+a/49%7, a/343))
		}
	}
}

func TestMeetOfAllCombinations(t *testing.T) {
	var all []complex128
	for _, begin := range rightInts {
		for _, size := range rightInts {
			all = append(all, span(begin, size))
		}
	}
	for _, a := range all {
		for _, b := range all {
			checkMeet(t, a, b)
		}
	}
}

func TestMeetOfRandomSpans(t *testing.T) {
	random := source()
	for range 20000 {
		checkMeet(t, anySpan(random), anySpan(random))
	}
}

// P15.3: Row

func TestRow(t *testing.T) {
	for _, c := range []struct {
		begin int
		sizes []int
		want  []complex128
	}{
		{0, []int{3, 4, 5}, []complex128{3i, 3 + 4i, 7 + 5i}}, {2, []int{3, 4, 5}, []complex128{2 + 3i, 5 + 4i, 9 + 5i}}, {0, []int{7}, []complex128{7i}}, {9, []int{7}, []complex128{9 + 7i}},
		{0, nil, nil}, {5, nil, nil}, {5, []int{}, nil}, {limit, nil, nil},
		{0, []int{0}, []complex128{0}}, {5, []int{0, 0}, []complex128{5, 5}}, {5, []int{0, 2, 0, 0, 3, 0}, []complex128{5, 5 + 2i, 7, 7, 7 + 3i, 10}},
		{0, []int{limit}, []complex128{limit * 1i}}, {0, []int{limit, 0}, []complex128{limit * 1i, limit}}, {1, []int{limit - 1}, []complex128{1 + (limit-1)*1i}}, {limit, []int{0, 0}, []complex128{limit, limit}},
		{limit - 1, []int{1}, []complex128{limit - 1 + 1i}}, {limit - 3, []int{1, 1, 1}, []complex128{limit - 3 + 1i, limit - 2 + 1i, limit - 1 + 1i}}, {0, []int{limit / 2, limit / 2}, []complex128{limit / 2 * 1i, limit/2 + limit/2*1i}},
	} {
		got, e := Row(c.begin, c.sizes)
		if !slices.Equal(got, c.want) || e != api.OK {
			t.Errorf("Row(%d, %d) = %v, %d", c.begin, c.sizes, got, e)
		}
	}
}

func TestRowRefuses(t *testing.T) {
	for _, c := range []struct {
		begin int
		sizes []int
	}{
		{-1, nil}, {limit + 1, nil}, {-1, []int{}}, {-1, []int{1}}, {-1, []int{1, 5}}, {-5, []int{5}}, {limit + 1, []int{0}}, {limit + 1, []int{-1}}, {math.MinInt, nil}, {math.MaxInt, nil}, {math.MaxInt, []int{1}}, {math.MinInt, []int{math.MinInt}},
		{0, []int{-1}}, {5, []int{-1}}, {5, []int{-5}}, {5, []int{3, -1}}, {5, []int{3, -1, 4}}, {5, []int{-1, 3}}, {0, []int{limit + 1}}, {0, []int{limit, 1}}, {0, []int{limit, -1}}, {1, []int{limit}}, {limit, []int{1}}, {limit, []int{0, 1}}, {limit, []int{-1}},
		{limit - 3, []int{1, 1, 1, 1}}, {limit - 3, []int{4}}, {limit - 3, []int{4, 0}}, {limit, []int{limit}}, {0, []int{limit, limit}}, {0, []int{limit / 2, limit/2 + 1}}, {0, []int{limit / 2, limit / 2, 1}},
		{0, []int{math.MaxInt}}, {0, []int{math.MinInt}}, {1, []int{math.MaxInt}}, {1, []int{3, math.MaxInt}}, {2, []int{math.MaxInt, math.MaxInt}}, {limit, []int{math.MaxInt}}, {limit, []int{math.MinInt}}, {0, []int{1, 2, 3, math.MinInt, 4}},
	} {
		if got, e := Row(c.begin, c.sizes); len(got) != 0 || e != api.ErrRange {
			t.Errorf("Row(%d, %d) = %v, %d", c.begin, c.sizes, got, e)
		}
	}
}

func TestRowOfAllCombinations(t *testing.T) {
	all := slices.Concat(rightInts, wrongInts)
	for _, begin := range all {
		checkRow(t, begin, nil)
		for _, first := range all {
			checkRow(t, begin, []int{first})
			for _, second := range all {
				checkRow(t, begin, []int{first, second})
			}
		}
	}
}

func TestRowOfRandomSizes(t *testing.T) {
	random := source()
	for range 5000 {
		sizes := make([]int, random.IntN(8))
		for i := range sizes {
			sizes[i] = int(random.Uint64() >> (63 - random.IntN(40)))
		}
		begin := random.IntN(10)
		if random.IntN(2) == 0 {
			// The row ends close to 2^40, on either side.
			begin = limit - sum(sizes) + random.IntN(5) - 2
		}
		checkRow(t, begin, sizes)
	}
	many := slices.Repeat([]int{1, 0, 2}, 50000)
	checkRow(t, 7, many)
}

// P15.3: Whole

func TestWhole(t *testing.T) {
	for _, c := range []struct {
		row  []complex128
		want complex128
	}{
		{[]complex128{3i, 3 + 4i, 7 + 5i}, 12i}, {[]complex128{3 + 4i, 7 + 5i}, 3 + 9i}, {[]complex128{3 + 4i}, 3 + 4i}, {[]complex128{0}, 0}, {[]complex128{5}, 5}, {[]complex128{limit}, limit}, {[]complex128{limit * 1i}, limit * 1i},
		{[]complex128{limit - 1 + 1i}, limit - 1 + 1i}, {[]complex128{limit - 1 + 1i, limit}, limit - 1 + 1i}, {[]complex128{limit, limit}, limit}, {[]complex128{1 + (limit-1)*1i}, 1 + (limit-1)*1i},
		{[]complex128{3, 3 + 4i, 7 + 5i}, 3 + 9i}, {[]complex128{3 + 4i, 7, 7 + 5i}, 3 + 9i}, {[]complex128{3 + 4i, 7 + 5i, 12}, 3 + 9i}, {[]complex128{3, 3, 3}, 3}, {[]complex128{0, 2i, 2}, 2i}, {[]complex128{limit / 2 * 1i, limit/2 + limit/2*1i}, limit * 1i},
		{[]complex128{complex(negativeZero, 2), 2 + 1i}, 3i}, {[]complex128{0, complex(negativeZero, 2)}, 2i}, {[]complex128{complex(0, negativeZero), complex(negativeZero, negativeZero)}, 0}, {[]complex128{complex(4, negativeZero), 4 + 1i}, 4 + 1i},
	} {
		if got, e := Whole(c.row); got != c.want || e != api.OK {
			t.Errorf("Whole(%v) = %v, %d", c.row, got, e)
		}
	}
}

// wrongRows are lists for which Whole and Pick return ErrArg.
func wrongRows() [][]complex128 {
	rows := [][]complex128{nil, {},
		{3i, 4 + 1i}, {3i, 2 + 1i}, {3i, 0}, {3i, 3i}, {3, 4}, {4, 3}, {3 + 4i, 7 + 5i, 13}, {3 + 4i, 7 + 5i, 11}, {3 + 4i, 8, 7 + 5i}, {3 + 4i, 6, 7 + 5i}, {2, 3 + 4i}, {4, 3 + 4i}, {7 + 5i, 3 + 4i}, {0, 1 + 1i}, {1 + 1i, 0}, {limit, 0}, {0, limit},
		{1 + limit*1i}, {limit + 1i}, {limit + limit*1i}, {limit - 1 + 2i}, {limit * 1i, limit + 1i}, {limit * 1i, limit, limit + 1i}, {limit - 1 + 2i, limit + 1}, {limit - 1 + 2i, limit}, {limit / 2 * 1i, limit/2 + (limit/2+1)*1i}, {limit + limit*1i, 2 * limit},
	}
	for _, s := range wrongNumbers() {
		rows = append(rows, []complex128{s}, []complex128{s, s}, []complex128{s, 3i}, []complex128{3i, s}, []complex128{3i, s, 3 + 4i}, []complex128{3i, 3 + 4i, s})
	}
	// Wrong ones that would start where the one before them ends, or end where the one after them starts.
	return append(rows, []complex128{3 - 1i, 2 + 1i}, []complex128{-1 + 1i, 0}, []complex128{-3 + 3i, 3i}, []complex128{0.5i, 0.5 + 2i}, []complex128{0.5 + 0.5i, 1 + 1i}, []complex128{1 + 0.5i, 1.5 + 0.5i, 2 + 1i}, []complex128{(limit + 1) * 1i, limit + 1}, []complex128{5 + 2i, 7 - 2i, 5 + 2i})
}

func TestWholeRefuses(t *testing.T) {
	for _, row := range wrongRows() {
		if got, e := Whole(row); got != 0 || e != api.ErrArg {
			t.Errorf("Whole(%v) = %v, %d", row, got, e)
		}
	}
}

// All lists of up to three short spans, at both ends of what a row may be, against what a row is.
func TestWholeOfShortSpans(t *testing.T) {
	rows := 0
	for _, from := range []int{0, 5, limit - 3, limit - 2} {
		var few []complex128
		for i := range 12 {
			few = append(few, span(min(from+i%4, limit), i/4))
		}
		for i := range 12 * 12 * 12 {
			list := []complex128{few[i%12], few[i/12%12], few[i/144]}
			for n := range 4 {
				if checkWhole(t, list[:n]) {
					rows++
				}
			}
		}
	}
	if rows < 1000 {
		t.Errorf("only %d rows", rows)
	}
}

func TestWholeOfRandomRows(t *testing.T) {
	random := source()
	for range 2000 {
		row := anyRow(random)
		if !checkWhole(t, row) {
			t.Errorf("Whole(%v) is refused", row)
		}
		// One part of one span is changed: that is a row no more, unless it was the length of the last one, or the start of the only one.
		broken := slices.Clone(row)
		i := random.IntN(len(row))
		broken[i] += []complex128{1, -1, 1i, -1i}[random.IntN(4)]
		checkWhole(t, broken)
	}
}

// P15.3: Find

func TestFind(t *testing.T) {
	row := []complex128{3i, 3 + 4i, 7 + 5i}
	gaps := []complex128{2, 2 + 3i, 5, 8 + 2i, 10, 10 + 1i, 11}
	overlaps := []complex128{5 + 4i, 2 + 9i, 5 + 4i, 1i, 2i}
	for _, c := range []struct {
		row    []complex128
		at     int
		i, off int
		ok     bool
	}{
		{row, -1, 0, 0, false}, {row, 0, 0, 0, true}, {row, 2, 0, 2, true}, {row, 3, 1, 0, true}, {row, 6, 1, 3, true}, {row, 7, 2, 0, true}, {row, 11, 2, 4, true}, {row, 12, 0, 0, false}, {row, 13, 0, 0, false},
		{row[1:], 2, 0, 0, false}, {row[1:], 3, 0, 0, true}, {row[1:], 7, 1, 0, true},
		{gaps, 1, 0, 0, false}, {gaps, 2, 1, 0, true}, {gaps, 4, 1, 2, true}, {gaps, 5, 0, 0, false}, {gaps, 7, 0, 0, false}, {gaps, 8, 3, 0, true}, {gaps, 9, 3, 1, true}, {gaps, 10, 5, 0, true}, {gaps, 11, 0, 0, false},
		{overlaps, 0, 3, 0, true}, {overlaps, 1, 4, 1, true}, {overlaps, 2, 1, 0, true}, {overlaps, 4, 1, 2, true}, {overlaps, 5, 0, 0, true}, {overlaps, 8, 0, 3, true}, {overlaps, 9, 1, 7, true}, {overlaps, 10, 1, 8, true}, {overlaps, 11, 0, 0, false},
		{nil, 0, 0, 0, false}, {[]complex128{}, 0, 0, 0, false}, {[]complex128{0}, 0, 0, 0, false}, {[]complex128{5, 5}, 5, 0, 0, false}, {[]complex128{0, 0, 1i}, 0, 2, 0, true}, {[]complex128{complex(negativeZero, 2)}, 0, 0, 0, true}, {[]complex128{complex(negativeZero, 2)}, 1, 0, 1, true},
		{row, math.MaxInt, 0, 0, false}, {row, math.MinInt, 0, 0, false}, {row, math.MinInt + 1, 0, 0, false}, {row, limit, 0, 0, false}, {row, 1 << 32, 0, 0, false}, {row, 1<<53 + 1, 0, 0, false},
	} {
		if i, off, ok := Find(c.row, c.at); i != c.i || off != c.off || ok != c.ok {
			t.Errorf("Find(%v, %d) = %d, %d, %v", c.row, c.at, i, off, ok)
		}
	}
}

// Spans may end beyond 2^40, and their bytes are found there.
func TestFindOfGreatSpans(t *testing.T) {
	great := []complex128{limit * 1i, limit + limit*1i}
	for _, c := range []struct {
		row    []complex128
		at     int
		i, off int
		ok     bool
	}{
		{great, 0, 0, 0, true}, {great, limit - 1, 0, limit - 1, true}, {great, limit, 1, 0, true}, {great, limit + 1, 1, 1, true}, {great, 2*limit - 1, 1, limit - 1, true}, {great, 2 * limit, 0, 0, false}, {great, math.MaxInt, 0, 0, false}, {great, math.MinInt, 0, 0, false},
		{great[1:], limit - 1, 0, 0, false}, {great[1:], 2*limit - 1, 0, limit - 1, true}, {[]complex128{1 + limit*1i}, limit, 0, limit - 1, true}, {[]complex128{1 + limit*1i}, limit + 1, 0, 0, false},
	} {
		if i, off, ok := Find(c.row, c.at); i != c.i || off != c.off || ok != c.ok {
			t.Errorf("Find(%v, %d) = %d, %d, %v", c.row, c.at, i, off, ok)
		}
	}
}

// A number that is no span contains nothing, and the spans behind it are still found.
func TestFindAmongNumbersThatAreNoSpans(t *testing.T) {
	for _, s := range wrongNumbers() {
		for _, at := range []int{-1, 0, 1, 2, 3, limit - 1, limit, limit + 1, 1 << 53, math.MaxInt, math.MinInt} {
			if i, off, ok := Find([]complex128{s}, at); i != 0 || off != 0 || ok {
				t.Errorf("Find(%v, %d) = %d, %d, %v", s, at, i, off, ok)
			}
		}
		if i, off, ok := Find([]complex128{s, 1 + 3i, s}, 3); i != 1 || off != 2 || !ok {
			t.Errorf("Find behind %v = %d, %d, %v", s, i, off, ok)
		}
	}
	if i, off, ok := Find([]complex128{0.5 + 4i, 4.5i, -1 + 9i, 5 - 5i, 9i}, 4); i != 4 || off != 4 || !ok {
		t.Errorf("Find = %d, %d, %v", i, off, ok)
	}
}

func TestFindInRandomLists(t *testing.T) {
	random := source()
	for range 3000 {
		list := make([]complex128, random.IntN(6))
		for i := range list {
			list[i] = complex(float64(random.IntN(24)-2)/2, float64(random.IntN(14)-2)/2)
		}
		for at := -2; at < 20; at++ {
			wantI, wantOff, wantOK := wantFind(list, at)
			if i, off, ok := Find(list, at); i != wantI || off != wantOff || ok != wantOK {
				t.Errorf("Find(%v, %d) = %d, %d, %v", list, at, i, off, ok)
			}
		}
	}
}

// P15.3: Pick

func TestPick(t *testing.T) {
	row := []complex128{3i, 3 + 4i, 7 + 5i}
	later := []complex128{2, 2 + 3i, 5, 5, 5 + 2i, 7}
	for _, c := range []struct {
		row  []complex128
		s    complex128
		want []Part
	}{
		{row, 2 + 6i, []Part{{0, 2 + 1i}, {1, 4i}, {2, 1i}}}, {row, 12i, []Part{{0, 3i}, {1, 4i}, {2, 5i}}}, {row, 3i, []Part{{0, 3i}}}, {row, 3 + 4i, []Part{{1, 4i}}}, {row, 7 + 5i, []Part{{2, 5i}}},
		{row, 1i, []Part{{0, 1i}}}, {row, 2 + 1i, []Part{{0, 2 + 1i}}}, {row, 3 + 1i, []Part{{1, 1i}}}, {row, 6 + 1i, []Part{{1, 3 + 1i}}}, {row, 7 + 1i, []Part{{2, 1i}}}, {row, 11 + 1i, []Part{{2, 4 + 1i}}}, {row, 4 + 2i, []Part{{1, 1 + 2i}}},
		{row, 2 + 2i, []Part{{0, 2 + 1i}, {1, 1i}}}, {row, 6 + 2i, []Part{{1, 3 + 1i}, {2, 1i}}}, {row, 1 + 6i, []Part{{0, 1 + 2i}, {1, 4i}}}, {row, 3 + 9i, []Part{{1, 4i}, {2, 5i}}}, {row, complex(negativeZero, 4), []Part{{0, 3i}, {1, 1i}}},
		{row, 0, nil}, {row, 3, nil}, {row, 5, nil}, {row, 7, nil}, {row, 12, nil}, {row, complex(negativeZero, negativeZero), nil}, {row, complex(12, negativeZero), nil},
		{later, 2 + 5i, []Part{{1, 3i}, {4, 2i}}}, {later, 4 + 2i, []Part{{1, 2 + 1i}, {4, 1i}}}, {later, 4 + 1i, []Part{{1, 2 + 1i}}}, {later, 5 + 1i, []Part{{4, 1i}}}, {later, 2, nil}, {later, 5, nil}, {later, 7, nil},
		{[]complex128{5}, 5, nil}, {[]complex128{0}, 0, nil}, {[]complex128{limit}, limit, nil}, {[]complex128{limit, limit}, limit, nil}, {[]complex128{complex(negativeZero, 2)}, 1 + 1i, []Part{{0, 1 + 1i}}}, {[]complex128{complex(negativeZero, 2)}, 2i, []Part{{0, 2i}}},
		{[]complex128{limit * 1i}, limit * 1i, []Part{{0, limit * 1i}}}, {[]complex128{limit * 1i}, limit - 1 + 1i, []Part{{0, limit - 1 + 1i}}}, {[]complex128{limit * 1i, limit}, limit, nil}, {[]complex128{limit - 2 + 1i, limit - 1 + 1i}, limit - 1 + 1i, []Part{{1, 1i}}},
	} {
		got, e := Pick(c.row, c.s)
		if !slices.Equal(got, c.want) || e != api.OK {
			t.Errorf("Pick(%v, %v) = %v, %d", c.row, c.s, got, e)
		}
		checkParts(t, got)
	}
}

// The parts were computed by another implementation.
func TestPickOfGreatRows(t *testing.T) {
	for _, c := range []struct {
		begin   int
		sizes   []int
		at, len int
		want    [][3]int
	}{
		{0, []int{120331586172, 204717339865, 203173379774}, 206157640940, 175481738604, [][3]int{{1, 85826054768, 118891285097}, {2, 0, 56590453507}}},
		{503990102423, []int{73220326349, 38497783251, 483803415753}, 750149155625, 315307518685, [][3]int{{2, 134440943602, 315307518685}}},
		{146008155894, []int{547928059594, 0, 296678969984, 23336223962, 61593765362}, 360837051545, 708352956348, [][3]int{{0, 214828895651, 333099163943}, {2, 0, 296678969984}, {3, 0, 23336223962}, {4, 0, 55238598459}}},
		{51, []int{37, 58, 107}, 80, 72, [][3]int{{0, 29, 8}, {1, 0, 58}, {2, 0, 6}}},
		{0, []int{881738839369, 217772788407}, 0, 1099511627776, [][3]int{{0, 0, 881738839369}, {1, 0, 217772788407}}},
		{311275378847, []int{50838609482, 238305910322, 251350574726, 195792693923}, 325775825401, 412816514261, [][3]int{{0, 14500446554, 36338162928}, {1, 0, 238305910322}, {2, 0, 138172441011}}},
		{132688461968, []int{5984058312, 66373969419, 357355853228, 425617855903}, 682343038078, 70967882123, [][3]int{{3, 119940695151, 70967882123}}},
		{135292798700, []int{426149249677, 456294632808}, 146506114332, 81894098815, [][3]int{{0, 11213315632, 81894098815}}},
	} {
		row, e := Row(c.begin, c.sizes)
		if e != api.OK {
			t.Fatalf("Row(%d, %d): %d", c.begin, c.sizes, e)
		}
		var want []Part
		for _, p := range c.want {
			want = append(want, Part{Index: p[0], Span: span(p[1], p[2])})
		}
		if got, e := Pick(row, span(c.at, c.len)); !slices.Equal(got, want) || e != api.OK {
			t.Errorf("Pick of %d, %d = %v, %d", c.at, c.len, got, e)
		}
	}
}

func TestPickBeyondTheRow(t *testing.T) {
	row := []complex128{3 + 4i, 7, 7 + 5i}
	atTop := []complex128{limit - 2 + 2i}
	for _, c := range []struct {
		row []complex128
		s   complex128
	}{
		{row, 2}, {row, 2 + 1i}, {row, 2 + 2i}, {row, 2 + 10i}, {row, 2 + 11i}, {row, 0}, {row, 1i}, {row, 20i}, {row, 13}, {row, 12 + 1i}, {row, 3 + 10i}, {row, 11 + 2i}, {row, 13 + 1i}, {row, limit}, {row, limit + 1i}, {row, limit + limit*1i}, {row, limit * 1i}, {row, 3 + limit*1i},
		{row, complex(negativeZero, negativeZero)}, {atTop, limit - 3}, {atTop, limit - 3 + 1i}, {atTop, limit - 3 + 3i}, {atTop, limit - 2 + 3i}, {atTop, limit - 1 + 2i}, {atTop, limit + 1i}, {atTop, limit + limit*1i},
		{[]complex128{5}, 4}, {[]complex128{5}, 6}, {[]complex128{5}, 5 + 1i}, {[]complex128{5}, 4 + 1i}, {[]complex128{0}, 1i}, {[]complex128{0}, 1}, {[]complex128{limit}, limit + 1i}, {[]complex128{limit}, limit - 1},
	} {
		if got, e := Pick(c.row, c.s); len(got) != 0 || e != api.ErrRange {
			t.Errorf("Pick(%v, %v) = %v, %d", c.row, c.s, got, e)
		}
	}
}

// What is no row or no span is reported before a span that is beyond the row.
func TestPickRefuses(t *testing.T) {
	for _, row := range wrongRows() {
		for _, s := range []complex128{0, 1, 3, 1i, 3i, 3 + 4i, limit, limit + limit*1i, -1, 0.5i, cmplx.NaN()} {
			if got, e := Pick(row, s); len(got) != 0 || e != api.ErrArg {
				t.Errorf("Pick(%v, %v) = %v, %d", row, s, got, e)
			}
		}
	}
	for _, s := range wrongNumbers() {
		for _, row := range [][]complex128{{3i, 3 + 4i}, {0}, {5}, {limit * 1i}, {limit}} {
			if got, e := Pick(row, s); len(got) != 0 || e != api.ErrArg {
				t.Errorf("Pick(%v, %v) = %v, %d", row, s, got, e)
			}
		}
	}
}

// P15.4

// All rows of up to four short spans, and all spans close to them, byte by byte.
func TestPickByteByByte(t *testing.T) {
	for sizes := range 4 * 4 * 4 * 4 {
		lengths := []int{sizes % 4, sizes / 4 % 4, sizes / 16 % 4, sizes / 64}
		for n := 1; n <= 4; n++ {
			for _, begin := range []int{0, 2, limit - sum(lengths[:n])} {
				checkPicks(t, begin, lengths[:n])
			}
		}
	}
}

func TestPickOfLongRows(t *testing.T) {
	random := source()
	for range 300 {
		sizes := make([]int, 1+random.IntN(40))
		for i := range sizes {
			sizes[i] = max(0, random.IntN(12)-3)
		}
		row, _ := Row(random.IntN(100), sizes)
		begin, _, _ := Parts(row[0])
		from, to := random.IntN(sum(sizes)+1), random.IntN(sum(sizes)+1)
		checkPick(t, row, span(begin+min(from, to), max(from, to)-min(from, to)))
	}
	row, _ := Row(0, slices.Repeat([]int{1, 0, 2}, 20000))
	checkPick(t, row, span(1, 59998))
}

// The parts of great spans cannot be listed byte by byte: each goes on where the one before it ends, and none goes beyond its span.
func TestPickOfRandomRows(t *testing.T) {
	random := source()
	for range 5000 {
		row := anyRow(random)
		begin, _, _ := Parts(row[0])
		end, _ := End(row[len(row)-1])
		edges := []int{begin + random.IntN(end-begin+1), begin + random.IntN(end-begin+1)}
		if random.IntN(3) == 0 {
			edges[0], _, _ = Parts(row[random.IntN(len(row))])
		}
		slices.Sort(edges)
		checkGreatPick(t, row, edges[0], edges[1])
	}
}

// P15.5

func TestMeetIsCommutative(t *testing.T) {
	random := source()
	for range 20000 {
		a, b := complex(anyFloat(random), anyFloat(random)), complex(anyFloat(random), anyFloat(random))
		if random.IntN(2) == 0 {
			a, b = anySpan(random), anySpan(random)
		}
		one, oneOK := Meet(a, b)
		other, otherOK := Meet(b, a)
		if one != other || oneOK != otherOK {
			t.Errorf("Meet(%v, %v) = %v, %v, the other way %v, %v", a, b, one, oneOK, other, otherOK)
		}
	}
}

func TestMeetWithItself(t *testing.T) {
	random := source()
	for range 20000 {
		s := anySpan(random)
		want, wantOK := s, imag(s) != 0
		if !wantOK {
			want = 0
		}
		if got, ok := Meet(s, s); got != want || ok != wantOK {
			t.Errorf("Meet(%v, %v) = %v, %v", s, s, got, ok)
		}
	}
}

// The rule for zeros

// -0 is taken for +0 everywhere, and no result has it.
func TestNegativeZero(t *testing.T) {
	begin := complex(negativeZero, 5)
	size := complex(5, negativeZero)
	both := complex(negativeZero, negativeZero)
	for _, s := range []complex128{begin, size, both} {
		for _, by := range []int{0, 1, -5} {
			moved, _ := Move(s, by)
			checkPlain(t, moved)
		}
		for _, other := range []complex128{begin, size, both, 5i, 5, 0, 9i, 3 + 4i} {
			common, _ := Meet(s, other)
			checkPlain(t, common)
			common, _ = Meet(other, s)
			checkPlain(t, common)
		}
		whole, e := Whole([]complex128{s})
		if e != api.OK {
			t.Errorf("Whole of %v: %d", s, e)
		}
		checkPlain(t, whole)
		parts, e := Pick([]complex128{s}, s)
		if e != api.OK {
			t.Errorf("Pick of %v from itself: %d", s, e)
		}
		checkParts(t, parts)
	}
	if got, ok := Meet(begin, 5i); got != 5i || !ok {
		t.Errorf("Meet with -0 = %v, %v", got, ok)
	}
	whole, e := Whole([]complex128{both, begin, size})
	if whole != 5i || e != api.OK {
		t.Errorf("Whole with -0 = %v, %d", whole, e)
	}
	checkPlain(t, whole)
	row, _ := Row(0, []int{0, 5, 0})
	for _, s := range row {
		checkPlain(t, s)
	}
}

// The memory rule

func TestArgumentsAreLeftAsTheyAre(t *testing.T) {
	sizes := []int{3, 0, 4, 5, 99, 99}
	if _, e := Row(0, sizes[:4]); e != api.OK {
		t.Fatal(e)
	}
	if !slices.Equal(sizes, []int{3, 0, 4, 5, 99, 99}) {
		t.Errorf("Row changed the sizes: %d", sizes)
	}
	list := []complex128{complex(negativeZero, 3), 3, 3 + 4i, 7 + 5i, 99, 99}
	if _, e := Whole(list[:4]); e != api.OK {
		t.Error(e)
	}
	if _, _, ok := Find(list[:4], 8); !ok {
		t.Error("nothing is found")
	}
	for _, s := range []complex128{2 + 6i, 12i, 5, 13, -1} {
		Pick(list[:4], s)
	}
	if !slices.Equal(list, []complex128{3i, 3, 3 + 4i, 7 + 5i, 99, 99}) || !math.Signbit(real(list[0])) {
		t.Errorf("the row is changed: %v", list)
	}
}

func TestResultsAreNewMemory(t *testing.T) {
	one, _ := Row(0, []int{3, 4, 5})
	other, _ := Row(0, []int{3, 4, 5})
	checkApart(t, one, other)
	some, _ := Pick(other, 2+6i)
	more, _ := Pick(other, 2+6i)
	checkApart(t, some, more)
	if again, _ := Pick(other, 2+6i); !slices.Equal(again, []Part{{0, 2 + 1i}, {1, 4i}, {2, 1i}}) {
		t.Errorf("Pick after its results were written over: %v", again)
	}
	empty, _ := Row(0, nil)
	_ = append(empty, 7)
	if nothing, _ := Row(0, nil); len(nothing) != 0 {
		t.Errorf("Row of nothing: %v", nothing)
	}
}

// Helpers

func source() *rand.Rand {
	return rand.New(rand.NewPCG(15, 15))
}

// span makes a span without the package's help.
func span(begin, size int) complex128 {
	return complex(float64(begin), float64(size))
}

// wrongNumbers are complex numbers that are no spans: one part is wrong, or both are.
func wrongNumbers() []complex128 {
	var all []complex128
	for _, wrong := range wrongParts {
		for _, other := range []float64{0, 1, 4, limit} {
			all = append(all, complex(wrong, other), complex(other, wrong))
		}
		for _, other := range wrongParts {
			all = append(all, complex(wrong, other))
		}
	}
	return all
}

// distances are those by which a span that starts at begin is moved, to the edges and beyond.
func distances(begin int) []int {
	return []int{0, 1, -1, -begin, -begin - 1, -begin + 1, limit - begin, limit - begin + 1, limit - begin - 1, limit, -limit, limit + 1, -limit - 1, 1 << 53, -1 << 53,
		math.MaxInt, math.MaxInt - 1, math.MaxInt - begin, math.MinInt, math.MinInt + 1, math.MinInt + limit}
}

// wantIntegral reports with big numbers whether x is an integer from 0 to 2^40.
func wantIntegral(x float64) bool {
	if math.IsNaN(x) {
		return false
	}
	n := big.NewFloat(x)
	return n.IsInt() && n.Sign() >= 0 && n.Cmp(big.NewFloat(limit)) <= 0
}

// wantWithin reports with big numbers whether a number is from 0 to 2^40.
func wantWithin(n *big.Int) bool {
	return n.Sign() >= 0 && n.Cmp(big.NewInt(limit)) <= 0
}

// has reports whether s is a span that contains the byte at. The floats are exact: at is close to s, or s is far below 2^53.
func has(s complex128, at int) bool {
	if !wantIntegral(real(s)) || !wantIntegral(imag(s)) {
		return false
	}
	return float64(at) >= real(s) && float64(at) < real(s)+imag(s)
}

func sum(sizes []int) int {
	n := 0
	for _, size := range sizes {
		n += size
	}
	return n
}

// anyFloat is a part that is right in three of four cases.
func anyFloat(random *rand.Rand) float64 {
	switch random.IntN(8) {
	case 0:
		return math.Float64frombits(random.Uint64())
	case 1:
		return float64(random.IntN(200)-100) / 4
	case 2:
		return wrongParts[random.IntN(len(wrongParts))]
	case 3:
		return rightParts[random.IntN(len(rightParts))]
	case 4:
		return float64(limit - 10 + random.IntN(12))
	}
	return float64(random.Uint64() >> (24 + random.IntN(40)))
}

// anySpan is a span, a short or empty one in some cases.
func anySpan(random *rand.Rand) complex128 {
	begin, size := random.IntN(limit+1), random.IntN(limit+1)
	switch random.IntN(4) {
	case 0:
		begin, size = random.IntN(20), random.IntN(10)
	case 1:
		begin, size = limit-random.IntN(20), random.IntN(10)
	}
	return span(begin, size)
}

// anyRow is a row of one to six spans anywhere, some of which may be empty.
func anyRow(random *rand.Rand) []complex128 {
	ends := make([]int, 2+random.IntN(6))
	for i := range ends {
		ends[i] = random.IntN(limit + 1)
		if i > 0 && random.IntN(4) == 0 {
			ends[i] = ends[i-1]
		}
	}
	slices.Sort(ends)
	var row []complex128
	for i, end := range ends[1:] {
		row = append(row, span(ends[i], end-ends[i]))
	}
	return row
}

// checkPlain checks that neither part is -0.
func checkPlain(t *testing.T, s complex128) {
	t.Helper()
	if math.Signbit(real(s)) || math.Signbit(imag(s)) {
		t.Errorf("a result has a sign: %v", s)
	}
}

// checkSpan checks that a result is a span and has no -0.
func checkSpan(t *testing.T, s complex128) {
	t.Helper()
	if !wantIntegral(real(s)) || !wantIntegral(imag(s)) {
		t.Errorf("%v is no span", s)
	}
	checkPlain(t, s)
}

// checkParts checks that parts come from spans of ascending indices, and that each has a byte.
func checkParts(t *testing.T, parts []Part) {
	t.Helper()
	for i, p := range parts {
		checkSpan(t, p.Span)
		if imag(p.Span) < 1 || p.Index < 0 || i > 0 && p.Index <= parts[i-1].Index {
			t.Errorf("a part that may not be, or not there: %v", parts)
		}
	}
}

// checkMove holds Move against a sum of big numbers.
func checkMove(t *testing.T, begin, size, by int) {
	t.Helper()
	to := new(big.Int).Add(big.NewInt(int64(begin)), big.NewInt(int64(by)))
	got, e := Move(span(begin, size), by)
	if !wantWithin(to) {
		if got != 0 || e != api.ErrRange {
			t.Errorf("Move of %d, %d by %d = %v, %d", begin, size, by, got, e)
		}
		return
	}
	if got != span(int(to.Int64()), size) || e != api.OK {
		t.Errorf("Move of %d, %d by %d = %v, %d", begin, size, by, got, e)
	}
	checkSpan(t, got)
}

// checkMeetByteByByte compares the bytes of what Meet returns for two short spans with those that both contain.
func checkMeetByteByByte(t *testing.T, a, b complex128) {
	t.Helper()
	got, ok := Meet(a, b)
	checkSpan(t, got)
	some := false
	for at := int(real(a)) - 1; at <= int(real(a)+imag(a)); at++ {
		both := has(a, at) && has(b, at)
		some = some || both
		if both != (ok && has(got, at)) {
			t.Errorf("Meet(%v, %v) = %v, %v: the byte %d", a, b, got, ok, at)
		}
	}
	if ok != some || !ok && got != 0 {
		t.Errorf("Meet(%v, %v) = %v, %v", a, b, got, ok)
	}
}

// checkMeet looks only at the bytes at the edges of the spans and of what Meet returns, and next to them: between those, nothing can change.
func checkMeet(t *testing.T, a, b complex128) {
	t.Helper()
	got, ok := Meet(a, b)
	checkSpan(t, got)
	some := false
	for _, s := range []complex128{a, b, got} {
		for _, edge := range []float64{real(s), real(s) + imag(s)} {
			for at := int(edge) - 1; at <= int(edge)+1; at++ {
				both := has(a, at) && has(b, at)
				some = some || both
				if both != (ok && has(got, at)) {
					t.Errorf("Meet(%v, %v) = %v, %v: the byte %d", a, b, got, ok, at)
				}
			}
		}
	}
	if ok != some || !ok && got != 0 {
		t.Errorf("Meet(%v, %v) = %v, %v", a, b, got, ok)
	}
}

// checkRow holds Row against sums of big numbers.
func checkRow(t *testing.T, begin int, sizes []int) {
	t.Helper()
	at := big.NewInt(int64(begin))
	right := wantWithin(at)
	var want []complex128
	for _, size := range sizes {
		n := big.NewInt(int64(size))
		start := float64(at.Int64())
		at.Add(at, n)
		right = right && wantWithin(n) && wantWithin(at)
		want = append(want, complex(start, float64(size)))
	}
	got, e := Row(begin, sizes)
	if right && (!slices.Equal(got, want) || e != api.OK) || !right && (len(got) != 0 || e != api.ErrRange) {
		t.Errorf("Row(%d, ..) of %d sizes = %d spans, %d", begin, len(sizes), len(got), e)
	}
	for _, s := range got {
		checkSpan(t, s)
	}
}

// checkWhole holds Whole against what a row is, and reports whether the list is one that does not end beyond 2^40.
func checkWhole(t *testing.T, list []complex128) bool {
	t.Helper()
	right := len(list) > 0
	for i, s := range list {
		right = right && wantIntegral(real(s)) && wantIntegral(imag(s)) && real(s)+imag(s) <= limit
		right = right && (i == 0 || real(list[i-1])+imag(list[i-1]) == real(s))
	}
	got, e := Whole(list)
	if !right {
		if got != 0 || e != api.ErrArg {
			t.Errorf("Whole(%v) = %v, %d", list, got, e)
		}
		return false
	}
	last := list[len(list)-1]
	if got != complex(real(list[0]), real(last)+imag(last)-real(list[0])) || e != api.OK {
		t.Errorf("Whole(%v) = %v, %d", list, got, e)
	}
	checkSpan(t, got)
	return true
}

// wantFind asks every span for the byte.
func wantFind(list []complex128, at int) (int, int, bool) {
	i := slices.IndexFunc(list, func(s complex128) bool { return has(s, at) })
	if i < 0 {
		return 0, 0, false
	}
	return i, at - int(real(list[i])), true
}

// checkPicks picks every span that starts or ends at most one byte beyond a row from it.
func checkPicks(t *testing.T, begin int, sizes []int) {
	t.Helper()
	row, e := Row(begin, sizes)
	if e != api.OK {
		t.Fatalf("Row(%d, %d): %d", begin, sizes, e)
	}
	end := begin + sum(sizes)
	for from := max(0, begin-1); from <= min(limit, end+1); from++ {
		for to := from; to <= end+1; to++ {
			if from >= begin && to <= end {
				checkPick(t, row, span(from, to-from))
			} else if got, e := Pick(row, span(from, to-from)); len(got) != 0 || e != api.ErrRange {
				t.Errorf("Pick(%v, %v) = %v, %d", row, span(from, to-from), got, e)
			}
		}
	}
}

// checkPick compares the bytes of the parts, each told by its span's index and its offset there, with those of s. The row has to stay as it is.
func checkPick(t *testing.T, row []complex128, s complex128) {
	t.Helper()
	before := slices.Clone(row)
	parts, e := Pick(row, s)
	if e != api.OK || !slices.Equal(row, before) {
		t.Fatalf("Pick(%v, %v): %d, row %v", before, s, e, row)
	}
	checkParts(t, parts)
	var want, got [][2]int
	for at := int(real(s)); at < int(real(s)+imag(s)); at++ {
		// The spans are searched from the one of the byte before on, since the rows may be long.
		i := 0
		if len(want) > 0 {
			i = want[len(want)-1][0]
		}
		for !has(row[i], at) {
			i++
		}
		want = append(want, [2]int{i, at - int(real(row[i]))})
	}
	for _, p := range parts {
		// A part that is far too long is not listed.
		if imag(p.Span) > imag(s) {
			t.Fatalf("Pick(%v, %v) = %v", row, s, parts)
		}
		for n := range int(imag(p.Span)) {
			got = append(got, [2]int{p.Index, int(real(p.Span)) + n})
		}
	}
	if !slices.Equal(got, want) {
		t.Errorf("Pick(%v, %v) = %v", row, s, parts)
	}
}

// checkGreatPick checks that the parts of the bytes begin to end go on from one another within their spans.
func checkGreatPick(t *testing.T, row []complex128, begin, end int) {
	t.Helper()
	parts, e := Pick(row, span(begin, end-begin))
	if e != api.OK {
		t.Fatalf("Pick(%v, %d to %d): %d", row, begin, end, e)
	}
	checkParts(t, parts)
	at := begin
	for _, p := range parts {
		inner, size := int(real(p.Span)), int(imag(p.Span))
		if at != int(real(row[p.Index]))+inner || inner+size > int(imag(row[p.Index])) {
			t.Errorf("Pick(%v, %d to %d) = %v", row, begin, end, parts)
		}
		at += size
	}
	if at != end {
		t.Errorf("Pick(%v, %d to %d) = %v", row, begin, end, parts)
	}
}

// checkApart checks that two equal results share no memory, not even their spare capacity: one is filled to its end, and the other has to stay as it is.
func checkApart[T comparable](t *testing.T, one, other []T) {
	t.Helper()
	before := slices.Clone(other[:cap(other)])
	var zero T
	full := one[:cap(one)]
	for i := range full {
		full[i] = zero
	}
	if !slices.Equal(other[:cap(other)], before) {
		t.Errorf("a result changed with another: %v", other)
	}
}
