package entropy

import (
	"bytes"
	"crypto/sha256"
	"math"
	"slices"
	"testing"

	"hypogeum/api"
)

// sizes are numbers of bytes that a source may have: few, around the most that one Draw returns, and many.
var sizes = []int{0, 1, 2, 3, 31, 32, 33, 100, 4095, 4096, 4097, 8191, 8192, 8193, 20000}

// wrongNumbers are numbers of bytes that no Draw returns.
var wrongNumbers = []int{-1, -2, -32, -4095, -4096, -4097, -1 << 31, -1<<32 + 1, -1 << 40, math.MinInt + 1, math.MinInt,
	4097, 4098, 8192, 1 << 16, 1<<16 + 1, 1 << 31, 1 << 32, 1<<32 + 1, 1 << 53, math.MaxInt - 1, math.MaxInt}

// rightNumbers are numbers of bytes that a Draw returns if they are left.
var rightNumbers = []int{0, 1, 2, 3, 16, 31, 32, 33, 255, 256, 257, 4094, 4095, 4096}

// P8.1: New, Draw, Left and Drawn

func TestExample(t *testing.T) {
	s := New([]byte{1, 2, 3})
	if b, e := s.Draw(2); !bytes.Equal(b, []byte{1, 2}) || e != api.OK {
		t.Errorf("the first Draw(2) = %v, %d", b, e)
	}
	if b, e := s.Draw(2); len(b) != 0 || e != api.ErrDry {
		t.Errorf("the second Draw(2) = %v, %d", b, e)
	}
	if b, e := s.Draw(1); !bytes.Equal(b, []byte{3}) || e != api.OK {
		t.Errorf("Draw(1) = %v, %d", b, e)
	}
}

func TestNewHasAllBytesLeft(t *testing.T) {
	for _, n := range sizes {
		w := watch(t, pattern(n))
		w.drawAll(t)
	}
	for _, b := range [][]byte{nil, {}, pattern(50)[:0], pattern(50)[50:]} {
		w := watch(t, b)
		w.draw(t, 0)
		w.draw(t, 1)
	}
}

func TestNewOfEveryByte(t *testing.T) {
	for b := range 256 {
		w := watch(t, []byte{byte(b)})
		w.draw(t, 1)
		w.draw(t, 1)
	}
}

func TestDrawOfEachNumber(t *testing.T) {
	for _, size := range sizes {
		for _, before := range rightNumbers {
			for _, n := range slices.Concat(rightNumbers, wrongNumbers) {
				w := watch(t, pattern(size))
				w.draw(t, before)
				w.draw(t, n)
				w.draw(t, n)
				w.draw(t, before)
			}
		}
	}
}

func TestDrawJustWhatIsLeft(t *testing.T) {
	for _, size := range sizes {
		for left := range min(size, 40) {
			w := watch(t, pattern(size))
			w.drawTo(t, left)
			w.draw(t, left+1)
			w.draw(t, left)
			w.draw(t, left+1)
			w.draw(t, 0)
			w.draw(t, 1)
		}
	}
	for _, left := range []int{4094, 4095, 4096} {
		for _, size := range []int{left, left + 1, 20000} {
			w := watch(t, pattern(size))
			w.drawTo(t, left)
			w.draw(t, left+1)
			w.draw(t, left)
			w.draw(t, 1)
		}
	}
}

func TestDrawNothing(t *testing.T) {
	for _, size := range sizes {
		w := watch(t, pattern(size))
		w.draw(t, 0)
		w.draw(t, 0)
		w.draw(t, 1)
		w.draw(t, 0)
		w.drawAll(t)
		w.draw(t, 0)
		w.draw(t, 0)
	}
}

func TestDrawOneByOne(t *testing.T) {
	w := watch(t, pattern(1000))
	for range 1002 {
		w.draw(t, 1)
	}
}

func TestDrawOfEverySize(t *testing.T) {
	for n := range api.MaxDraw + 2 {
		w := watch(t, pattern(10000))
		for range 3 {
			w.draw(t, n)
		}
	}
}

func TestLimitOfADraw(t *testing.T) {
	s := New(pattern(10000))
	if b, e := s.Draw(4096); !bytes.Equal(b, pattern(4096)) || e != api.OK {
		t.Errorf("Draw(4096) has %d bytes, %d", len(b), e)
	}
	if b, e := s.Draw(4097); len(b) != 0 || e != api.ErrArg {
		t.Errorf("Draw(4097) has %d bytes, %d", len(b), e)
	}
}

func TestErrArgIsAheadOfErrDry(t *testing.T) {
	for _, n := range wrongNumbers {
		for _, size := range sizes {
			s := New(pattern(size))
			for range 2 {
				if b, e := s.Draw(n); len(b) != 0 || cap(b) != 0 || e != api.ErrArg {
					t.Errorf("Draw(%d) of %d bytes has %d bytes, %d", n, size, len(b), e)
				}
			}
		}
	}
	for _, n := range rightNumbers[1:] {
		s := New(pattern(n - 1))
		for range 2 {
			if b, e := s.Draw(n); len(b) != 0 || cap(b) != 0 || e != api.ErrDry {
				t.Errorf("Draw(%d) of %d bytes has %d bytes, %d", n, n-1, len(b), e)
			}
		}
	}
}

func TestManyBytes(t *testing.T) {
	w := watch(t, stream("many bytes", 1<<20+5))
	w.drawAll(t)
	w.more(t, stream("many more", 1<<18+3))
	w.drawAll(t)
}

// P8.1: More

func TestMoreAtEveryPlace(t *testing.T) {
	for _, size := range []int{0, 1, 2, 5, 100, 4096, 4097} {
		for _, before := range []int{0, 1, 2, 5, 50, 100, 4096} {
			for _, more := range sizes {
				w := watch(t, pattern(size))
				w.draw(t, before)
				w.more(t, stream("more", more))
				w.draw(t, before)
				w.more(t, pattern(3))
				w.drawAll(t)
				w.more(t, stream("behind the last", more))
				w.drawAll(t)
			}
		}
	}
}

func TestMoreOfNothing(t *testing.T) {
	for _, size := range sizes {
		w := watch(t, pattern(size))
		for _, n := range []int{0, 1, 4096} {
			for _, b := range [][]byte{nil, {}, pattern(50)[:0], pattern(50)[50:]} {
				w.more(t, b)
				w.draw(t, n)
			}
		}
		w.drawAll(t)
		w.more(t, nil)
		w.draw(t, 0)
		w.draw(t, 1)
	}
}

func TestMoreWithoutADraw(t *testing.T) {
	w := watch(t, nil)
	for i := range 200 {
		w.more(t, stream("part", i%7))
	}
	w.drawAll(t)
	one := watch(t, nil)
	for _, b := range pattern(5000) {
		one.more(t, []byte{b})
	}
	one.drawAll(t)
}

func TestMoreAfterAnError(t *testing.T) {
	for _, size := range []int{0, 1, 31} {
		w := watch(t, pattern(size))
		w.draw(t, 32)
		w.draw(t, -1)
		w.more(t, stream("more", 32-size))
		w.draw(t, 4097)
		w.draw(t, 33)
		w.draw(t, 32)
		w.draw(t, 1)
	}
}

func TestMoreOfWhatWasDrawn(t *testing.T) {
	s := New(pattern(10))
	for range 20 {
		b, e := s.Draw(10)
		if !bytes.Equal(b, pattern(10)) || e != api.OK {
			t.Fatalf("Draw(10) = %x, %d", b, e)
		}
		s.More(b)
	}
}

// P8.1: Copy

func TestCopyAtEveryPlace(t *testing.T) {
	eachCopied(t, func(w *watched) *watched {
		return &watched{s: w.s.Copy(), all: bytes.Clone(w.all), drawn: w.drawn}
	})
}

func TestCopiedByValue(t *testing.T) {
	eachCopied(t, func(w *watched) *watched {
		s := *w.s
		return &watched{s: &s, all: bytes.Clone(w.all), drawn: w.drawn}
	})
}

func TestCopyIsAnotherSource(t *testing.T) {
	for _, size := range sizes {
		s := New(pattern(size))
		if c := s.Copy(); c == nil || c == s {
			t.Errorf("Copy of a source of %d bytes = %p; it is %p", size, c, s)
		}
	}
}

func TestCopyOfACopy(t *testing.T) {
	w := watch(t, pattern(100))
	for i := range 50 {
		w.draw(t, i%3)
		c := &watched{s: w.s.Copy(), all: bytes.Clone(w.all), drawn: w.drawn}
		c.check(t)
		c.more(t, stream("a copy of a copy", i%5))
		w.draw(t, 1)
		w.more(t, ones(i))
		w.check(t)
		w = c
	}
	w.drawAll(t)
}

// eachCopied copies sources that are fresh, partly drawn and drawn out, with More ahead of it and without,
// and works on the two afterwards.
func eachCopied(t *testing.T, copied func(w *watched) *watched) {
	for _, size := range []int{0, 1, 2, 64, 100, 5000} {
		for _, before := range []int{0, 1, 50, size} {
			for _, more := range []int{0, 1, 7, 64, 5000} {
				for which := range 2 {
					w := watch(t, pattern(size))
					w.more(t, stream("ahead of the copy", more))
					w.draw(t, before)
					two := [2]*watched{w, copied(w)}
					workOnBoth(t, two[which], two[1-which])
				}
			}
		}
	}
}

// workOnBoth draws from two sources and supplies more to them, and checks after each step that the other one is as it was.
func workOnBoth(t *testing.T, one, other *watched) {
	t.Helper()
	other.check(t)
	for i := range 4 {
		one.draw(t, 1+i)
		other.check(t)
		one.more(t, stream("for the one", 3+i))
		other.check(t)
		other.more(t, ones(3+i))
		one.check(t)
		other.draw(t, 2)
		one.check(t)
		one.draw(t, 4097)
		one.draw(t, -1)
		other.check(t)
	}
	one.drawAll(t)
	other.drawAll(t)
	other.more(t, ones(5))
	one.more(t, pattern(5))
	other.drawAll(t)
	one.drawAll(t)
}

// P8.1: two sources, and none

func TestTwoSourcesAreIndependent(t *testing.T) {
	b := pattern(300)
	one, other := watch(t, b), watch(t, b)
	for i := range 80 {
		one.draw(t, i%6)
		other.check(t)
		other.draw(t, i%11)
		one.check(t)
		one.more(t, b[:i%4])
		other.check(t)
		other.more(t, b[i:i+i%5])
		one.check(t)
	}
	one.drawAll(t)
	other.check(t)
	other.drawAll(t)
	one.check(t)
}

func TestNilSource(t *testing.T) {
	var s *Source
	for range 2 {
		for _, n := range rightNumbers {
			if b, e := s.Draw(n); len(b) != 0 || cap(b) != 0 || e != api.ErrDry {
				t.Errorf("Draw(%d) of nil = %x, %d", n, b, e)
			}
		}
		for _, n := range wrongNumbers {
			if b, e := s.Draw(n); len(b) != 0 || cap(b) != 0 || e != api.ErrArg {
				t.Errorf("Draw(%d) of nil = %x, %d", n, b, e)
			}
		}
		for _, b := range [][]byte{nil, {}, {1}, pattern(5000)} {
			s.More(b)
		}
		if s.Left() != 0 || s.Drawn() != 0 {
			t.Errorf("nil: %d bytes are left, %d are drawn", s.Left(), s.Drawn())
		}
		if c := s.Copy(); c != nil {
			t.Errorf("Copy of nil = %v", c)
		}
	}
	if c := s.Copy().Copy(); c.Left() != 0 || c.Drawn() != 0 {
		t.Errorf("a copy of nil: %d bytes are left, %d are drawn", c.Left(), c.Drawn())
	}
}

// P8.2

func TestDrawnIsAPrefixOfSupplied(t *testing.T) {
	for _, most := range []int{3, 40, 5000} {
		for seed := range 30 {
			supplied, drawn := play(t, byte(seed), most)
			if !bytes.HasPrefix(supplied, drawn) {
				t.Errorf("%d, %d: the %d bytes that were drawn are no prefix of the %d that were supplied", most, seed, len(drawn), len(supplied))
			}
		}
	}
}

// play takes steps that are made of a seed, of at most so many bytes each, and returns what was supplied, and what was drawn.
func play(t *testing.T, seed byte, most int) (supplied, drawn []byte) {
	t.Helper()
	steps := stream("steps "+string(rune('A'+seed)), 600)
	supplied = stream("at first", int(seed)*most/40)
	s := New(supplied)
	for step := range slices.Chunk(steps, 3) {
		n := (int(step[1])<<8 | int(step[2])) % (most + 1)
		switch step[0] % 5 {
		case 0, 1:
			b := stream("supplied "+string(rune(n)), n)
			s.More(b)
			supplied = append(supplied, b...)
		case 2:
			s = s.Copy()
		default:
			b, e := s.Draw(n)
			if (e == api.OK) != (n <= 4096 && n <= len(supplied)-len(drawn)) || e != api.OK && len(b) != 0 {
				t.Fatalf("Draw(%d) with %d bytes left = %d bytes, %d", n, len(supplied)-len(drawn), len(b), e)
			}
			drawn = append(drawn, b...)
		}
		if s.Drawn() != len(drawn) || s.Left() != len(supplied)-len(drawn) {
			t.Fatalf("%d bytes are drawn, %d are left; want %d of %d", s.Drawn(), s.Left(), len(drawn), len(supplied))
		}
	}
	return supplied, drawn
}

func TestErrorsUseUpNothing(t *testing.T) {
	for _, size := range sizes {
		w := watch(t, pattern(size))
		for _, n := range []int{0, 1, 30, 4096} {
			w.draw(t, n)
			for _, wrong := range wrongNumbers {
				w.draw(t, wrong)
			}
			for more := len(w.all) - w.drawn + 1; more <= 4096; more += 500 {
				w.draw(t, more)
			}
		}
		w.drawAll(t)
	}
}

// DOC.md, 'Memory'

func TestArgumentsAreNotModified(t *testing.T) {
	for _, n := range sizes {
		room := pattern(2*n + 100)
		s := New(room[:n])
		s.More(room[:n/2])
		s.More(room[n : 2*n])
		s.More(room[:0])
		s.Copy().More(pattern(50))
		s.More(ones(50))
		for range 2 + s.Left()/4096 {
			b, _ := s.Draw(min(s.Left(), 4096))
			overwrite(b[:cap(b)])
		}
		s.More(ones(50))
		if !bytes.Equal(room, pattern(2*n+100)) {
			t.Errorf("what was handed in, %d bytes, or its spare capacity, is changed", n)
		}
	}
}

func TestArgumentsMayBeWrittenOver(t *testing.T) {
	for _, n := range sizes {
		first, second, third := pattern(n), stream("second", n), ones(n)
		all := bytes.Join([][]byte{first, second, third}, nil)
		s := New(first)
		overwrite(first)
		s.More(second)
		overwrite(second)
		w := &watched{s: s, all: all[:2*n]}
		w.check(t)
		w.draw(t, min(n, 10))
		c := &watched{s: s.Copy(), all: w.all, drawn: w.drawn}
		w.more(t, third)
		overwrite(third)
		w.drawAll(t)
		c.drawAll(t)
	}
}

func TestSpareCapacityIsNotSupplied(t *testing.T) {
	room := pattern(200)
	w := watch(t, room[:20])
	w.more(t, room[50:60])
	w.more(t, room[:0])
	w.drawAll(t)
	w.draw(t, 1)
}

func TestOneArgumentForAll(t *testing.T) {
	room := make([]byte, 64)
	w := watch(t, room)
	for i := range 50 {
		for j := range room {
			room[j] = byte(i + j)
		}
		w.more(t, room[i%9:])
		w.draw(t, 40)
	}
	overwrite(room)
	w.drawAll(t)
}

func TestResultsAreInMemoryOfTheirOwn(t *testing.T) {
	for _, n := range rightNumbers {
		s := New(pattern(5 * n))
		c, v := s.Copy(), *s
		first, _ := s.Draw(n)
		second, _ := s.Draw(n)
		ofCopy, _ := c.Draw(n)
		ofValue, _ := v.Draw(n)
		overwrite(first[:cap(first)])
		if !bytes.Equal(second, pattern(2 * n)[n:]) || !bytes.Equal(ofCopy, pattern(n)) || !bytes.Equal(ofValue, pattern(n)) {
			t.Errorf("two results of %d bytes share memory", n)
		}
		overwrite(second[:cap(second)], ofCopy[:cap(ofCopy)], ofValue[:cap(ofValue)])
		(&watched{s: s, all: pattern(5 * n), drawn: 2 * n}).drawAll(t)
		(&watched{s: c, all: pattern(5 * n), drawn: n}).drawAll(t)
		(&watched{s: &v, all: pattern(5 * n), drawn: n}).drawAll(t)
	}
}

func TestResultsStayAsTheyAre(t *testing.T) {
	s := New(pattern(1000))
	results := [][]byte{}
	for range 10 {
		b, _ := s.Draw(100)
		results = append(results, b)
		s.More(ones(100))
		s.Copy().More(ones(100))
	}
	for range 10 {
		s.Draw(100)
	}
	if got := bytes.Join(results, nil); !bytes.Equal(got, pattern(1000)) {
		t.Errorf("what was drawn changes to %x", got)
	}
}

func TestResultsMayBeAppendedTo(t *testing.T) {
	w := watch(t, pattern(1000))
	for range 10 {
		b, _ := w.s.Draw(7)
		w.drawn += 7
		_ = append(b, ones(20)...)
		w.check(t)
	}
	w.drawAll(t)
}

// watched is a source beside what it must be: all bytes that were supplied, and how many of them have been drawn.
type watched struct {
	s     *Source
	all   []byte
	drawn int
}

// watch returns a new source of the bytes of b.
func watch(t *testing.T, b []byte) *watched {
	t.Helper()
	w := &watched{s: New(b), all: bytes.Clone(b)}
	if w.s == nil {
		t.Fatalf("New of %d bytes = nil", len(b))
	}
	w.check(t)
	return w
}

// check fails unless Left and Drawn, asked twice, return what they must.
func (w *watched) check(t *testing.T) {
	t.Helper()
	for range 2 {
		if left, drawn := w.s.Left(), w.s.Drawn(); left != len(w.all)-w.drawn || drawn != w.drawn {
			t.Fatalf("%d bytes are left, %d are drawn; want %d, %d", left, drawn, len(w.all)-w.drawn, w.drawn)
		}
	}
}

// draw fails unless Draw returns the next n bytes, or the error that applies first and nothing else.
func (w *watched) draw(t *testing.T, n int) {
	t.Helper()
	want, wantErr := []byte{}, api.OK
	switch {
	case n < 0 || n > 4096:
		wantErr = api.ErrArg
	case n > len(w.all)-w.drawn:
		wantErr = api.ErrDry
	default:
		want = w.all[w.drawn : w.drawn+n]
	}
	got, e := w.s.Draw(n)
	if !bytes.Equal(got, want) || e != wantErr || e != api.OK && cap(got) != 0 {
		t.Fatalf("Draw(%d) behind %d of %d bytes = %x, %d; want %x, %d", n, w.drawn, len(w.all), got, e, want, wantErr)
	}
	w.drawn += len(want)
	w.check(t)
}

// drawTo draws until so many bytes are left.
func (w *watched) drawTo(t *testing.T, left int) {
	t.Helper()
	for w.drawn < len(w.all)-left {
		w.draw(t, min(len(w.all)-left-w.drawn, 4096))
	}
}

// drawAll draws all that is left, and then some more.
func (w *watched) drawAll(t *testing.T) {
	t.Helper()
	w.drawTo(t, 0)
	w.draw(t, 0)
	w.draw(t, 1)
}

// more supplies the bytes of b.
func (w *watched) more(t *testing.T, b []byte) {
	t.Helper()
	w.s.More(b)
	// The bytes of all may be shared with another watched source.
	w.all = slices.Concat(w.all, b)
	w.check(t)
}

// overwrite changes every byte of the parts.
func overwrite(parts ...[]byte) {
	for _, b := range parts {
		for i := range b {
			b[i] ^= 0xee
		}
	}
}

// ones returns n bytes ff.
func ones(n int) []byte { return bytes.Repeat([]byte{0xff}, n) }

// stream returns n bytes that are made of a name and have no pattern.
func stream(name string, n int) []byte {
	b := []byte{}
	for sum := sha256.Sum256([]byte(name)); len(b) < n; sum = sha256.Sum256(sum[:]) {
		b = append(b, sum[:]...)
	}
	return b[:n:n]
}

// pattern returns n bytes of which those that are next to one another differ.
func pattern(n int) []byte {
	b := make([]byte, n)
	for i := range b {
		b[i] = byte(i%251 + 1)
	}
	return b
}
