package cutter

import (
	"bytes"
	"math"
	"math/rand/v2"
	"slices"
	"testing"

	"hypogeum/api"
	"hypogeum/gf2"
	"hypogeum/rolling"
)

const (
	// example is an irreducible polynomial of degree 53.
	example = 0x3da3358b4dc173
	allOnes = math.MaxUint64
	// lastByte is a polynomial modulo which the lowest 8 bits of a fingerprint are the last byte, and the bit above them is the lowest one of the byte before it.
	lastByte = 1 << 9
)

// vectors are the lengths of the chunks of that many mixed bytes, as another implementation finds them that divides the numbers of whole windows.
var vectors = []struct {
	c     api.Cut
	bytes int
	want  []int
}{
	{api.Cut{Poly: example, Mask: 0, Min: 1, Max: 1}, 20, []int{1, 1, 1, 1, 1, 1, 1, 1, 1, 1, 1, 1, 1, 1, 1, 1, 1, 1, 1, 1}},
	{api.Cut{Poly: example, Mask: 0, Min: 7, Max: 4096}, 40, []int{7, 7, 7, 7, 7, 5}},
	{api.Cut{Poly: example, Mask: allOnes, Min: 5, Max: 30}, 100, []int{30, 30, 30, 10}},
	{api.Cut{Poly: example, Mask: 1, Min: 1, Max: 64}, 120, []int{6, 1, 2, 1, 1, 1, 1, 8, 2, 3, 1, 4, 5, 1, 2, 3, 2, 4, 3, 1, 3, 3, 2, 1, 1, 1, 1, 1, 2, 1, 3, 2, 10, 3, 1, 1, 2, 2, 11, 1, 2, 1, 1, 4, 1, 1, 3, 2, 1}},
	{api.Cut{Poly: example, Mask: 7, Min: 1, Max: 64}, 300, []int{22, 9, 9, 12, 6, 7, 3, 15, 3, 13, 12, 11, 1, 5, 5, 9, 4, 18, 6, 15, 2, 3, 4, 8, 6, 5, 13, 29, 8, 4, 2, 17, 13, 1}},
	{api.Cut{Poly: example, Mask: 15, Min: 10, Max: 40}, 400, []int{22, 11, 20, 40, 10, 40, 40, 40, 18, 10, 28, 12, 10, 32, 17, 12, 32, 6}},
	{api.Cut{Poly: example, Mask: 63, Min: 48, Max: 256}, 2000, []int{54, 57, 130, 153, 56, 86, 143, 67, 57, 256, 143, 64, 132, 119, 86, 79, 99, 219}},
	{api.Cut{Poly: example, Mask: 63 << 40, Min: 48, Max: 256}, 2000, []int{180, 64, 181, 76, 256, 209, 110, 81, 76, 63, 96, 111, 59, 153, 155, 86, 44}},
	{api.Cut{Poly: 0x20009, Mask: 63, Min: 48, Max: 256}, 2000, []int{98, 68, 159, 102, 89, 112, 100, 92, 49, 65, 123, 49, 163, 227, 90, 55, 81, 49, 63, 166}},
	{api.Cut{Poly: 0x20009, Mask: 1 << 16, Min: 3, Max: 20}, 100, []int{4, 5, 3, 3, 4, 4, 5, 8, 3, 4, 3, 4, 3, 6, 3, 3, 7, 3, 7, 3, 3, 4, 4, 4}},
	{api.Cut{Poly: 0x20009, Mask: 1 << 17, Min: 3, Max: 20}, 100, []int{20, 20, 20, 20, 20}},
	{api.Cut{Poly: 0x211, Mask: 0x1f0, Min: 16, Max: 200}, 1000, []int{31, 32, 29, 26, 22, 19, 63, 48, 58, 26, 26, 64, 16, 28, 34, 78, 78, 21, 25, 18, 69, 19, 40, 130}},
	{api.Cut{Poly: 0x211, Mask: 15, Min: 17, Max: 100}, 600, []int{25, 31, 22, 29, 24, 22, 18, 54, 26, 34, 31, 44, 17, 24, 40, 26, 30, 22, 23, 36, 19, 3}},
	{api.Cut{Poly: 1 << 9, Mask: 3, Min: 15, Max: 60}, 300, []int{26, 26, 15, 19, 20, 15, 17, 29, 15, 17, 16, 15, 16, 17, 22, 15}},
	{api.Cut{Poly: 1 << 9, Mask: 0x180, Min: 4, Max: 60}, 300, []int{7, 4, 21, 6, 7, 7, 7, 4, 9, 10, 5, 20, 8, 6, 13, 5, 26, 6, 6, 15, 6, 4, 4, 4, 4, 8, 9, 10, 13, 10, 4, 9, 5, 5, 4, 9}},
	{api.Cut{Poly: 1<<54 - 1, Mask: 31, Min: 20, Max: 300}, 1200, []int{59, 29, 32, 22, 37, 67, 27, 83, 54, 22, 46, 26, 23, 35, 43, 45, 48, 28, 23, 41, 61, 35, 41, 91, 70, 29, 83}},
	{api.Cut{Poly: 1<<53 | 0x47, Mask: 1 << 52, Min: 1, Max: 9}, 60, []int{7, 9, 8, 7, 7, 7, 9, 6}},
	{api.Cut{Poly: 0x1002d, Mask: 255, Min: 200, Max: 4096}, 6000, []int{348, 479, 552, 331, 684, 287, 234, 213, 367, 698, 296, 529, 632, 350}},
	{api.Cut{Poly: example, Mask: 4095, Min: 1, Max: 4096}, 12000, []int{111, 4096, 2022, 4096, 1675}},
	{api.Cut{Poly: example, Mask: 31, Min: 16, Max: 16}, 100, []int{16, 16, 16, 16, 16, 16, 4}},
	{api.Cut{Poly: example, Mask: 31, Min: 32, Max: 33}, 400, []int{33, 33, 32, 33, 33, 33, 33, 33, 33, 33, 33, 32, 6}},
}

// The chapter's example, and vectors

func TestMaskOfZero(t *testing.T) {
	for _, c := range rightCuts() {
		c.Mask = 0
		for _, n := range lengthsToCut(c) {
			want := slices.Repeat([]int{c.Min}, n/c.Min)
			if n%c.Min > 0 {
				want = append(want, n%c.Min)
			}
			checkCuts(t, c, random(n), want)
		}
	}
}

// No fingerprint has 64 bits, so that a Mask of all ones leaves cuts at Max alone; a Mask of one bit that none has does so, too.
func TestMaskThatNoFingerprintHas(t *testing.T) {
	for _, c := range rightCuts() {
		d := gf2.Degree(c.Poly)
		for _, mask := range []uint64{allOnes, 1 << 63, 1 << d, 1<<d | 1, 1<<53 | 3, 1 << 60} {
			c.Mask = mask
			for _, n := range lengthsToCut(c) {
				want := slices.Repeat([]int{c.Max}, n/c.Max)
				if n%c.Max > 0 {
					want = append(want, n%c.Max)
				}
				checkCuts(t, c, random(n), want)
			}
		}
	}
}

// A Mask of all the bits that a fingerprint can have is met now and then.
func TestMaskOfAllBitsOfAFingerprint(t *testing.T) {
	c := api.Cut{Poly: lastByte, Mask: 0x1ff, Min: 1, Max: 100}
	checkCuts(t, c, join(same(9, 0xfe), []byte{1, 0xff}, same(3, 0xff), same(120, 7)), []int{11, 2, 100, 21})
}

func TestVectors(t *testing.T) {
	for _, v := range vectors {
		checkCuts(t, v.c, mixed(v.bytes), v.want)
	}
}

// P14.1 and P14.2: which cut is valid, and what is returned for one that is not

func TestRightCuts(t *testing.T) {
	for _, c := range rightCuts() {
		if !Right(c) {
			t.Errorf("Right(%+v) = false", c)
		}
		if lengths, e := Lengths(c, []byte{7}); !slices.Equal(lengths, []int{1}) || e != api.OK {
			t.Errorf("Lengths(%+v, 07) = %v, %d", c, lengths, e)
		}
		if k, e := New(c); k == nil || e != api.OK {
			t.Errorf("New(%+v) = %v, %d", c, k, e)
		}
	}
}

func TestWrongCuts(t *testing.T) {
	for _, c := range wrongCuts() {
		checkWrong(t, c)
	}
}

func TestEveryDegree(t *testing.T) {
	c := api.Cut{Mask: 3, Min: 2, Max: 9}
	for d := range 64 {
		for _, poly := range []uint64{1 << d, 1<<d | 1, 2<<d - 1, 1<<d | 1<<d>>1} {
			c.Poly = poly
			if right := d >= 9 && d <= 53; Right(c) != right {
				t.Errorf("Right(%+v) = %v", c, !right)
			} else if right {
				checkCuts(t, c, random(50), wantLengths(c, random(50)))
			} else {
				checkWrong(t, c)
			}
		}
	}
}

func TestEveryMinAndMax(t *testing.T) {
	sizes := []int{math.MinInt, math.MinInt + 1, -4096, -1, 0, 1, 2, 15, 16, 17, 4095, 4096, 4097, 1 << 31, 1 << 32, 1<<32 | 9, math.MaxInt - 1, math.MaxInt}
	for _, least := range sizes {
		for _, most := range sizes {
			c := api.Cut{Poly: example, Mask: 1, Min: least, Max: most}
			if right := least >= 1 && least <= most && most <= 4096; Right(c) != right {
				t.Errorf("Right(%+v) = %v", c, !right)
			} else if right {
				checkCuts(t, c, random(60), wantLengths(c, random(60)))
			} else {
				checkWrong(t, c)
			}
		}
	}
}

func TestMaskMakesNoCutWrong(t *testing.T) {
	for bit := range 64 {
		for _, c := range []api.Cut{{Poly: example, Mask: 1 << bit, Min: 1, Max: 4096}, {Poly: 1 << 9, Mask: allOnes >> bit, Min: 16, Max: 16}} {
			if !Right(c) {
				t.Errorf("Right(%+v) = false", c)
			}
		}
		if c := (api.Cut{Poly: 1 << 8, Mask: 1 << bit, Min: 1, Max: 1}); Right(c) {
			t.Errorf("Right(%+v) = true", c)
		}
	}
}

// P14.1 to P14.3: the chunks, as Lengths, Pieces and Push find them

func TestNoBytes(t *testing.T) {
	for _, c := range rightCuts() {
		for _, b := range [][]byte{nil, {}, random(90)[:0], random(90)[90:]} {
			checkCuts(t, c, b, nil)
		}
	}
}

func TestManyLengths(t *testing.T) {
	for _, c := range rightCuts() {
		for _, n := range lengthsToCut(c) {
			for _, b := range [][]byte{same(n, 0), same(n, 255), rising(n), random(n)} {
				checkCuts(t, c, b, wantLengths(c, b))
			}
		}
	}
}

func TestEachLength(t *testing.T) {
	b := random(150)
	for _, c := range fewCuts() {
		for n := range b {
			checkCuts(t, c, b[:n], wantLengths(c, b[:n]))
			checkCuts(t, c, b[n:], wantLengths(c, b[n:]))
		}
	}
}

func TestMinAroundTheWindow(t *testing.T) {
	for _, poly := range []uint64{example, 0x20009, 0x211, lastByte} {
		for _, mask := range []uint64{1, 6, 15, 0x110} {
			for least := 1; least <= 34; least++ {
				for _, most := range []int{least, least + 1, least + 16, 200} {
					c := api.Cut{Poly: poly, Mask: mask, Min: least, Max: most}
					checkCuts(t, c, random(250), wantLengths(c, random(250)))
				}
			}
		}
	}
}

// With zeros alone, the fingerprint is 0: only Min and Max count.
func TestZeros(t *testing.T) {
	for _, c := range rightCuts() {
		size := c.Max
		if c.Mask == 0 {
			size = c.Min
		}
		checkCuts(t, c, same(3*size, 0), []int{size, size, size})
	}
}

func TestEndByTheFingerprint(t *testing.T) {
	for _, least := range []int{1, 2, 9, 15, 16, 17, 40, 4000} {
		for _, most := range []int{least, least + 1, least + 2, least + 20, 4096} {
			c := api.Cut{Poly: lastByte, Mask: 255, Min: least, Max: most}
			for _, end := range []int{1, least - 1, least, least + 1, most - 1, most, most + 1} {
				if end < 1 {
					continue
				}
				want := most
				if end >= least && end <= most {
					want = end
				}
				b := same(most+least, 254)
				b[end-1] = 255
				checkCuts(t, c, b, wantLengths(c, b))
				if got, e := Lengths(c, b[:want]); !slices.Equal(got, []int{want}) || e != api.OK {
					t.Errorf("Lengths(%+v, %d bytes, the one to end at is byte %d) = %v, %d", c, want, end, got, e)
				}
				if got, e := Lengths(c, b); len(got) == 0 || got[0] != want || e != api.OK {
					t.Errorf("Lengths(%+v, %d bytes, the one to end at is byte %d) = %v, %d; want %d first", c, len(b), end, got, e, want)
				}
			}
		}
	}
}

// Each bit of a Mask counts: a chunk does not end where only some are set.
func TestAllBitsOfAMaskCount(t *testing.T) {
	for bit := range 8 {
		c := api.Cut{Poly: lastByte, Mask: 255, Min: 3, Max: 50}
		checkCuts(t, c, join(same(7, 255^1<<bit), same(1, 255), same(9, 0)), []int{8, 9})
		c.Mask = 1 << bit
		checkCuts(t, c, join(same(7, 255^1<<bit), same(1, 1<<bit), same(9, 0)), []int{8, 9})
	}
}

// The ninth bit of a fingerprint comes from the byte before the last one, and must not come from the chunk before.
func TestFingerprintIsReset(t *testing.T) {
	c := api.Cut{Poly: lastByte, Mask: 0x100, Min: 1, Max: 5}
	checkCuts(t, c, same(9, 255), []int{2, 2, 2, 2, 1})
	checkCuts(t, c, []byte{0, 0, 0, 0, 1, 0, 0, 0, 0, 0, 0, 1, 0, 1}, []int{5, 5, 3, 1})
	for _, c := range fewCuts() {
		b := random(400)
		for _, n := range wantLengths(c, b) {
			if got, e := Lengths(c, b); len(got) == 0 || got[0] != n || e != api.OK {
				t.Errorf("Lengths(%+v, %d bytes) = %v, %d; want %d first", c, len(b), got, e, n)
			}
			b = b[n:]
		}
	}
}

func TestDataThatEndsWhereAChunkEnds(t *testing.T) {
	for _, c := range fewCuts() {
		b := random(500)
		all := wantLengths(c, b)
		at := 0
		for i, n := range all[:len(all)-1] {
			at += n
			checkCuts(t, c, b[:at], all[:i+1])
			k := cutter(t, c)
			if pushed(k, b[:at]); k.Open() != 0 {
				t.Errorf("%+v: Open is %d after the end of chunk %d", c, k.Open(), i)
			}
		}
	}
}

// P14.4

func TestAppendedBytes(t *testing.T) {
	for _, c := range fewCuts() {
		b := random(300)
		for n := range b {
			before := wantLengths(c, b[:n])
			for _, more := range [][]byte{nil, {0}, {255}, b[n:], same(100, 255), same(300, 0)} {
				after, e := Lengths(c, join(b[:n], more))
				sure := max(0, len(before)-1)
				if len(after) < len(before) || !slices.Equal(after[:sure], before[:sure]) || e != api.OK {
					t.Errorf("%+v: %d bytes are cut into %v, and after %d more into %v, %d", c, n, before, len(more), after, e)
				} else if len(before) > 0 && after[sure] < before[sure] {
					t.Errorf("%+v: %d bytes have a last chunk of %d, and after %d more of %d", c, n, before[sure], len(more), after[sure])
				}
			}
		}
	}
}

func TestDataThatStartsWhereAChunkEnded(t *testing.T) {
	for _, c := range fewCuts() {
		b := random(600)
		rest, _ := Lengths(c, b)
		for len(rest) > 0 {
			if got, e := Lengths(c, b); !slices.Equal(got, rest) || e != api.OK {
				t.Errorf("%+v: the last %d bytes are cut into %v, %d; want %v", c, len(b), got, e, rest)
			}
			b, rest = b[rest[0]:], rest[1:]
		}
	}
}

// Data that goes on alike after the ends of two chunks is cut alike from there on.
func TestWhatCameBeforeDoesNotCount(t *testing.T) {
	for _, c := range fewCuts() {
		end := random(400)
		want := wantLengths(c, end)
		for n := 1; n < 200; n += 13 {
			start := random(n)
			lengths := wantLengths(c, start)
			start = start[:n-lengths[len(lengths)-1]]
			got, e := Lengths(c, join(start, end))
			if !slices.Equal(got, append(lengths[:len(lengths)-1:len(lengths)-1], want...)) || e != api.OK {
				t.Errorf("%+v: %d bytes after %d are cut into %v, %d; want %v in the end", c, len(end), len(start), got, e, want)
			}
		}
	}
}

// P14.2: Cutter

func TestOpen(t *testing.T) {
	c := api.Cut{Poly: lastByte, Mask: 255, Min: 3, Max: 6}
	k := cutter(t, c)
	if k.Open() != 0 {
		t.Errorf("Open of a new Cutter is %d", k.Open())
	}
	b := []byte{255, 255, 255, 1, 2, 3, 4, 5, 6, 7, 255, 255, 1, 255, 9}
	ends := []bool{false, false, true, false, false, false, false, false, true, false, false, true, false, false, false}
	open := []int{1, 2, 0, 1, 2, 3, 4, 5, 0, 1, 2, 0, 1, 2, 3}
	for i, next := range b {
		if got := k.Push(next); got != ends[i] {
			t.Errorf("Push of byte %d = %v", i, got)
		}
		for range i % 3 {
			if got := k.Open(); got != open[i] {
				t.Errorf("Open after byte %d is %d; want %d", i, got, open[i])
			}
		}
	}
}

func TestOpenChangesNothing(t *testing.T) {
	for _, c := range fewCuts() {
		asked, other := cutter(t, c), cutter(t, c)
		for i, next := range random(300) {
			for range i % 4 {
				asked.Open()
			}
			if asked.Push(next) != other.Push(next) || asked.Open() != other.Open() {
				t.Fatalf("%+v: asked for Open, a Cutter differs at byte %d", c, i)
			}
		}
	}
}

func TestCuttersByTurns(t *testing.T) {
	all := []*watched{}
	for _, c := range append(fewCuts(), fewCuts()...) {
		all = append(all, watch(t, c))
	}
	for i, next := range random(400) {
		for j, w := range all {
			w.push(t, next^byte(i*j))
		}
	}
	for _, w := range all {
		w.check(t)
	}
}

// An object is also a copy of one that was made by assignment.
func TestCopiedCutter(t *testing.T) {
	for _, c := range fewCuts() {
		for _, n := range []int{0, 1, 5, 16, 40, 300} {
			a := watch(t, c)
			for _, next := range random(n) {
				a.push(t, next)
			}
			value := *a.k
			b := &watched{c: c, k: &value, pushed: bytes.Clone(a.pushed), lengths: slices.Clone(a.lengths)}
			for i, next := range random(120) {
				a.push(t, next)
				if i > 50 {
					b.push(t, ^next)
				}
			}
			a.check(t)
			b.check(t)
		}
	}
}

func TestNilCutter(t *testing.T) {
	var none *Cutter
	for b := range 256 {
		if none.Push(byte(b)) {
			t.Errorf("Push(%d) of nil = true", b)
		}
		if got := none.Open(); got != 0 {
			t.Errorf("Open of nil = %d", got)
		}
	}
}

func TestErrorsChangeNothing(t *testing.T) {
	for _, c := range fewCuts() {
		w := watch(t, c)
		for i, next := range random(100) {
			w.push(t, next)
			for j, wrong := range wrongCuts() {
				if (i+j)%40 == 0 {
					checkWrong(t, wrong)
				}
			}
		}
		w.check(t)
	}
}

// P14.1: Pieces

func TestPiecesLeftEarly(t *testing.T) {
	for _, c := range fewCuts() {
		b := random(500)
		all := wantLengths(c, b)
		seq := Pieces(c, b)
		for stop := range len(all) + 1 {
			visited := 0
			seq(func(from int, chunk []byte) bool {
				visited++
				return visited < stop
			})
			if visited != max(1, stop) {
				t.Errorf("%+v: left after chunk %d, %d were visited", c, stop, visited)
			}
			got := []int{}
			for _, chunk := range seq {
				if len(got) == stop {
					break
				}
				got = append(got, len(chunk))
			}
			if !slices.Equal(got, all[:stop]) {
				t.Errorf("%+v: the first %d chunks have %v bytes; want %v", c, stop, got, all[:stop])
			}
		}
	}
}

func TestPiecesRangedOverTwice(t *testing.T) {
	for _, c := range fewCuts() {
		b := random(500)
		seq := Pieces(c, b)
		for range 3 {
			checkPieces(t, c, b, collected(seq))
			for range seq {
				break
			}
		}
	}
}

func TestPiecesRangedOverInOneAnother(t *testing.T) {
	for _, c := range fewCuts() {
		b := random(120)
		seq := Pieces(c, b)
		outer := []piece{}
		for from, chunk := range seq {
			checkPieces(t, c, b, collected(seq))
			outer = append(outer, piece{from, chunk})
		}
		checkPieces(t, c, b, outer)
	}
}

func TestPiecesOfTwoByTurns(t *testing.T) {
	b := random(200)
	for _, c := range fewCuts() {
		for _, other := range fewCuts() {
			outer := []piece{}
			for from, chunk := range Pieces(c, b) {
				for range Pieces(other, random(30)) {
				}
				outer = append(outer, piece{from, chunk})
			}
			checkPieces(t, c, b, outer)
		}
	}
}

// Memory (DOC.md, 'Rules that hold everywhere')

// Chunks that are written to, also beyond their ends, change neither the data nor another chunk.
func TestPiecesWrittenTo(t *testing.T) {
	for _, c := range fewCuts() {
		room := random(700)
		b := room[100:600]
		seq := Pieces(c, b)
		for range 2 {
			all, before := []piece{}, []piece{}
			for from, chunk := range seq {
				all = append(all, piece{from, bytes.Clone(chunk)})
				before = append(before, piece{from, chunk})
				writeTo(append(chunk, 1, 2, 3))
				writeTo(chunk[:cap(chunk)])
			}
			checkPieces(t, c, b, all)
			for i, p := range before {
				if want := written(len(p.chunk)); !bytes.Equal(p.chunk, want) {
					t.Errorf("%+v: chunk %d was written to, and then changed", c, i)
				}
			}
		}
		if !bytes.Equal(room, random(700)) {
			t.Errorf("%+v: writing to chunks changes the data, or what lies around it", c)
		}
	}
}

func TestPiecesHaveNoSpareCapacity(t *testing.T) {
	for _, c := range rightCuts() {
		for from, chunk := range Pieces(c, random(300)) {
			if cap(chunk) != len(chunk) {
				t.Errorf("%+v: the chunk at %d has %d bytes, and room for %d", c, from, len(chunk), cap(chunk))
			}
		}
	}
}

// The data is read when Pieces is called: what is written to it later changes no chunk.
func TestDataWrittenTo(t *testing.T) {
	for _, c := range fewCuts() {
		b := random(500)
		seq := Pieces(c, b)
		writeTo(b)
		checkPieces(t, c, random(500), collected(seq))
		b = random(500)
		all := []piece{}
		for from, chunk := range Pieces(c, b) {
			writeTo(b)
			all = append(all, piece{from, chunk})
		}
		checkPieces(t, c, random(500), all)
	}
}

func TestLengthsWrittenTo(t *testing.T) {
	for _, c := range fewCuts() {
		b := random(300)
		first, _ := Lengths(c, b)
		second, _ := Lengths(c, b)
		clear(first[:cap(first)])
		if !slices.Equal(second, wantLengths(c, b)) {
			t.Errorf("%+v: writing to the lengths of one call changes those of another", c)
		}
	}
}

func TestBytesAreLeftAsTheyWere(t *testing.T) {
	for _, c := range append(rightCuts(), wrongCuts()...) {
		for _, n := range []int{0, 1, 20, 200} {
			b := random(n + 50)
			Lengths(c, b[:n])
			Lengths(c, b[n:])
			collected(Pieces(c, b[:n]))
			collected(Pieces(c, b[n:]))
			if !bytes.Equal(b, random(n+50)) {
				t.Errorf("%+v: %d bytes, or their spare capacity, are changed", c, n)
			}
		}
	}
}

func TestSpareCapacityDoesNotCount(t *testing.T) {
	room := random(500)
	for _, c := range fewCuts() {
		for n := range 100 {
			b := bytes.Clone(room[200 : 200+n])
			checkCuts(t, c, room[200:200+n], wantLengths(c, b))
			checkPieces(t, c, b, collected(Pieces(c, room[200:200+n])))
		}
	}
}

func TestManyCalls(t *testing.T) {
	source := rand.New(rand.NewPCG(14, 1))
	polys := []uint64{example, 0x20009, 0x211, lastByte, 1<<53 | 0x47, 1<<54 - 1}
	for range 2000 {
		least := 1 + source.IntN(40)
		c := api.Cut{
			Poly: polys[source.IntN(len(polys))],
			Mask: source.Uint64() & source.Uint64() & (1<<source.IntN(12) - 1),
			Min:  least,
			Max:  least + source.IntN(80),
		}
		b := randomFrom(source, source.IntN(400))
		checkCuts(t, c, b, wantLengths(c, b))
	}
}

// watched is a Cutter, what has been pushed to it, and the lengths of the chunks that it has ended.
type watched struct {
	c       api.Cut
	k       *Cutter
	pushed  []byte
	lengths []int
}

func watch(t *testing.T, c api.Cut) *watched {
	t.Helper()
	w := &watched{c: c, k: cutter(t, c)}
	w.check(t)
	return w
}

func (w *watched) push(t *testing.T, b byte) {
	t.Helper()
	w.pushed = append(w.pushed, b)
	before := w.k.Open()
	if w.k.Push(b) {
		w.lengths = append(w.lengths, before+1)
		before = -1
	}
	if got := w.k.Open(); got != before+1 {
		t.Fatalf("%+v: Open after %d bytes is %d; want %d", w.c, len(w.pushed), got, before+1)
	}
}

func (w *watched) check(t *testing.T) {
	t.Helper()
	got := slices.Clone(w.lengths)
	if w.k.Open() > 0 {
		got = append(got, w.k.Open())
	}
	if want := wantLengths(w.c, w.pushed); !slices.Equal(got, want) {
		t.Fatalf("%+v: %d bytes pushed are cut into %v; want %v", w.c, len(w.pushed), got, want)
	}
}

// piece is what Pieces yields at once.
type piece struct {
	from  int
	chunk []byte
}

// collected returns all that is yielded.
func collected(seq func(func(int, []byte) bool)) []piece {
	all := []piece{}
	for from, chunk := range seq {
		all = append(all, piece{from, chunk})
	}
	return all
}

// cutter returns a new Cutter for a cut that must be valid.
func cutter(t *testing.T, c api.Cut) *Cutter {
	t.Helper()
	k, e := New(c)
	if k == nil || e != api.OK {
		t.Fatalf("New(%+v) = %v, %d", c, k, e)
	}
	return k
}

// pushed returns the lengths of the chunks that end while bytes are pushed to a Cutter that has no open chunk.
func pushed(k *Cutter, b []byte) []int {
	lengths := []int{}
	start := 0
	for i, next := range b {
		if k.Push(next) {
			lengths = append(lengths, i+1-start)
			start = i + 1
		}
	}
	return lengths
}

// checkCuts fails unless Lengths, Pieces and Push cut b into chunks of these lengths, and the lengths are as P14.3 says.
func checkCuts(t *testing.T, c api.Cut, b []byte, want []int) {
	t.Helper()
	if got, e := Lengths(c, b); !slices.Equal(got, want) || e != api.OK {
		t.Errorf("Lengths(%+v, %d bytes) = %v, %d; want %v", c, len(b), got, e, want)
	} else {
		checkSizes(t, c, len(b), got)
	}
	at := 0
	i := 0
	for from, chunk := range Pieces(c, b) {
		if i >= len(want) || from != at || len(chunk) != want[i] || !bytes.Equal(chunk, b[at:at+len(chunk)]) {
			t.Fatalf("%+v: piece %d of %d bytes begins at %d and has %d; want one at %d of the lengths %v", c, i, len(b), from, len(chunk), at, want)
		}
		at += len(chunk)
		i++
	}
	if i != len(want) || at != len(b) {
		t.Errorf("%+v: Pieces yields %d of %d bytes in %d chunks; want %v", c, at, len(b), i, want)
	}
	k := cutter(t, c)
	got := pushed(k, b)
	if k.Open() > 0 {
		got = append(got, k.Open())
	}
	if !slices.Equal(got, want) {
		t.Errorf("%+v: %d bytes pushed are cut into %v; want %v", c, len(b), got, want)
	}
}

// checkSizes fails unless the lengths are those of chunks of n bytes, as P14.3 says.
func checkSizes(t *testing.T, c api.Cut, n int, lengths []int) {
	t.Helper()
	sum := 0
	for i, length := range lengths {
		sum += length
		if length > c.Max || length < 1 || length < c.Min && i < len(lengths)-1 {
			t.Errorf("%+v: chunk %d of %d has %d bytes", c, i, len(lengths), length)
		}
	}
	if sum != n {
		t.Errorf("%+v: the chunks of %d bytes have %d", c, n, sum)
	}
}

// checkPieces fails unless all that was yielded are the chunks of b.
func checkPieces(t *testing.T, c api.Cut, b []byte, all []piece) {
	t.Helper()
	want := wantLengths(c, b)
	if len(all) != len(want) {
		t.Fatalf("%+v: Pieces yields %d chunks; want %d", c, len(all), len(want))
	}
	at := 0
	for i, p := range all {
		if p.from != at || !bytes.Equal(p.chunk, b[at:at+want[i]]) {
			t.Errorf("%+v: piece %d begins at %d and is %x; want %x at %d", c, i, p.from, p.chunk, b[at:at+want[i]], at)
		}
		at += want[i]
	}
}

// checkWrong fails unless a cut is refused by all that take one.
func checkWrong(t *testing.T, c api.Cut) {
	t.Helper()
	if Right(c) {
		t.Errorf("Right(%+v) = true", c)
	}
	if k, e := New(c); k != nil || e != api.ErrRange {
		t.Errorf("New(%+v) = %v, %d", c, k, e)
	}
	for _, b := range [][]byte{nil, {}, {1}, same(100, 255)} {
		if lengths, e := Lengths(c, b); len(lengths) != 0 || e != api.ErrRange {
			t.Errorf("Lengths(%+v, %d bytes) = %v, %d", c, len(b), lengths, e)
		}
		for from, chunk := range Pieces(c, b) {
			t.Errorf("Pieces(%+v, %d bytes) yields %d, %x", c, len(b), from, chunk)
		}
	}
}

// wantLengths returns the lengths of the chunks of b by the fingerprints of layer 13, found anew for each byte.
func wantLengths(c api.Cut, b []byte) []int {
	lengths := []int{}
	for len(b) > 0 {
		n := 1
		for n < len(b) && !wantEnd(c, b[:n]) {
			n++
		}
		lengths = append(lengths, n)
		b = b[n:]
	}
	return lengths
}

// wantEnd reports whether a chunk that has these bytes ends after them.
func wantEnd(c api.Cut, chunk []byte) bool {
	if len(chunk) >= c.Max {
		return true
	}
	if len(chunk) < c.Min {
		return false
	}
	// A fingerprint depends only on the last 16 bytes (P13.3), which are those of the chunk alone.
	value, _ := rolling.Of(c.Poly, chunk[max(0, len(chunk)-16):])
	for bit := range 64 {
		if c.Mask>>bit&1 == 1 && value>>bit&1 == 0 {
			return false
		}
	}
	return true
}

// rightCuts are valid cuts at the limits of Poly, Min and Max, and those of fewCuts.
func rightCuts() []api.Cut {
	list := fewCuts()
	for _, poly := range []uint64{1 << 9, 1<<10 - 1, 1 << 53, 1<<54 - 1} {
		for _, size := range [][2]int{{1, 1}, {1, 2}, {1, 4096}, {4095, 4096}, {4096, 4096}} {
			list = append(list, api.Cut{Poly: poly, Mask: 0x15, Min: size[0], Max: size[1]})
		}
	}
	return append(list, api.Cut{Poly: example, Min: 16, Max: 4096}, api.Cut{Poly: 0x211, Mask: allOnes, Min: 16, Max: 4096})
}

// fewCuts are valid cuts with Min below, at and above the window's 16 bytes.
func fewCuts() []api.Cut {
	return []api.Cut{
		{Poly: example, Mask: 1, Min: 1, Max: 9},
		{Poly: example, Mask: 7, Min: 1, Max: 64},
		{Poly: example, Mask: 3 << 51, Min: 15, Max: 40},
		{Poly: 1<<53 | 0x47, Mask: 3, Min: 16, Max: 30},
		{Poly: 0x20009, Mask: 15, Min: 17, Max: 80},
		{Poly: 0x20009, Mask: 63, Min: 48, Max: 256},
		{Poly: 0x211, Mask: 0x108, Min: 5, Max: 33},
		{Poly: lastByte, Mask: 0x107, Min: 2, Max: 50},
		{Poly: 0x211, Mask: 3, Min: 20, Max: 20},
		{Poly: example, Min: 3, Max: 5},
		{Poly: example, Mask: allOnes, Min: 3, Max: 7},
	}
}

// wrongCuts are cuts of which a Poly, a Min or a Max, or several of them, are out of their range.
func wrongCuts() []api.Cut {
	list := []api.Cut{{}}
	for _, poly := range []uint64{0, 1, 1 << 8, 1<<9 - 1, 1 << 54, 1<<55 - 1, 1 << 63, math.MaxUint64, 1<<54 | example, 1<<63 | 0x211} {
		list = append(list, api.Cut{Poly: poly, Min: 1, Max: 4096}, api.Cut{Poly: poly, Mask: 1, Min: 16, Max: 16}, api.Cut{Poly: poly, Min: 0, Max: 9})
	}
	for _, size := range [][2]int{
		{math.MinInt, 9}, {-1, 9}, {0, 9}, {0, 0}, {10, 9}, {4096, 4095}, {math.MaxInt, 9},
		{1, 0}, {1, -1}, {1, math.MinInt}, {1, 4097}, {4097, 4097}, {1, math.MaxInt},
		{math.MaxInt, math.MaxInt}, {math.MinInt, math.MinInt}, {math.MinInt, math.MaxInt}, {-5, -4}, {0, 4097},
	} {
		list = append(list, api.Cut{Poly: example, Min: size[0], Max: size[1]}, api.Cut{Poly: 1 << 9, Mask: allOnes, Min: size[0], Max: size[1]})
	}
	return list
}

// lengthsToCut are numbers of bytes around Min, Max and multiples of them.
func lengthsToCut(c api.Cut) []int {
	list := []int{0, 1, c.Min - 1, c.Min, c.Min + 1, c.Max - 1, c.Max, c.Max + 1, c.Min + c.Max, 2 * c.Max}
	if c.Max <= 300 {
		list = append(list, 2*c.Max+1, 5*c.Max-1, 5*c.Max, 5*c.Max+1)
	}
	slices.Sort(list)
	return slices.Compact(list)
}

// written returns n bytes as writeTo leaves them.
func written(n int) []byte {
	b := make([]byte, n)
	writeTo(b)
	return b
}

// writeTo writes bytes that no data of these tests is.
func writeTo(b []byte) {
	for i := range b {
		b[i] = byte(171 - 5*i)
	}
}

// join returns the parts, one behind the other, in memory of their own.
func join(parts ...[]byte) []byte { return bytes.Join(parts, nil) }

// same returns n times the byte b.
func same(n int, b byte) []byte { return bytes.Repeat([]byte{b}, n) }

// rising returns n bytes that begin with 0 and rise by 1.
func rising(n int) []byte {
	b := make([]byte, n)
	for i := range b {
		b[i] = byte(i)
	}
	return b
}

// mixed returns the n bytes of which the vectors are.
func mixed(n int) []byte {
	b := make([]byte, n)
	x := uint32(14)
	for i := range b {
		x = (x*1103515245 + 12345) & (1<<31 - 1)
		b[i] = byte(x >> 16)
	}
	return b
}

// random returns n bytes without a pattern, the same ones in every run.
func random(n int) []byte { return randomFrom(rand.New(rand.NewPCG(14, 14)), n) }

func randomFrom(source *rand.Rand, n int) []byte {
	b := make([]byte, n)
	for i := range b {
		b[i] = byte(source.Uint32())
	}
	return b
}
