package digest

import (
	"bytes"
	"crypto/sha256"
	"encoding/hex"
	"strings"
	"testing"
)

// edges are the lengths around which the padding or the blocks of a message change.
var edges = []int{0, 1, 54, 55, 56, 57, 62, 63, 64, 65, 118, 119, 120, 121, 127, 128, 129, 183, 184, 192}

// P2.1

func TestOf(t *testing.T) {
	cases := []struct{ text, want string }{
		{"abc", "ba7816bf8f01cfea414140de5dae2223b00361a396177a9cb410ff61f20015ad"},
		{"", "e3b0c44298fc1c149afbf4c8996fb92427ae41e4649b934ca495991b7852b855"},
		{"abcdbcdecdefdefgefghfghighijhijkijkljklmklmnlmnomnopnopq",
			"248d6a61d20638b8e5c026930c3e6039a33ce45964ff2167f6ecedd419db06c1"},
		{"abcdefghbcdefghicdefghijdefghijkefghijklfghijklmghijklmnhijklmnoijklmnopjklmnopqklmnopqrlmnopqrsmnopqrstnopqrstu",
			"cf5b16a778af8380036ce59e7b0492370b249b11e8f07a51afac45037afee9d1"},
		{strings.Repeat("a", 1000000), "cdc76e5c9914fb9281a1c7e284d73e67f1809a48a497200e046d39ccc7112cd0"},
		{"\xbd", "68325720aabd7c82f30f554b313d0570c95accbb7dc4b5aae11204c08ffe732b"},
		{"\xc9\x8c\x8e\x55", "7abc22c0ae5af26ce93dbb94433a0e0b2e119d014f8e7f65bd56c61ccccd9504"},
		{strings.Repeat("\x00", 55), "02779466cdec163811d078815c633f21901413081449002f24aa3e80f0b88ef7"},
		{strings.Repeat("\x00", 56), "d4817aa5497628e7c77e6b606107042bbba3130888c5f47a375e6179be789fbb"},
		{strings.Repeat("\x00", 64), "f5a5fd42d16a20302798ef6ed309979b43003d2320d9f0e8ea9831a92759fb4b"},
	}
	for _, c := range cases {
		got := Of([]byte(c.text))
		if hex.EncodeToString(got[:]) != c.want {
			t.Errorf("Of %d bytes = %x; want %s", len(c.text), got, c.want)
		}
	}
}

func TestOfEveryLength(t *testing.T) {
	all := pattern(1000)
	for n := range len(all) + 1 {
		if got := Of(all[:n]); got != want(all[:n]) {
			t.Errorf("Of %d bytes = %x; want %x", n, got, want(all[:n]))
		}
	}
}

func TestOfManyMessages(t *testing.T) {
	text := Sum{}
	for i := range 2000 {
		next := Of(text[:])
		if next != want(text[:]) {
			t.Fatalf("message %d: Of %x = %x", i, text, next)
		}
		text = next
	}
}

func TestOfNothing(t *testing.T) {
	empty := want(nil)
	for _, parts := range [][][]byte{nil, {}, {nil}, {{}}, {nil, nil}, {nil, {}, nil, {}}, {pattern(9)[:0]}} {
		if got := Of(parts...); got != empty {
			t.Errorf("Of %d parts without bytes = %x", len(parts), got)
		}
	}
	if Of() != empty {
		t.Error("Of no parts is not the sum of no bytes")
	}
}

func TestOfPartsCutAnywhere(t *testing.T) {
	for _, n := range edges {
		all := pattern(n)
		whole := want(all)
		for i := range n + 1 {
			if got := Of(all[:i], all[i:]); got != whole {
				t.Errorf("%d bytes cut at %d: %x; want %x", n, i, got, whole)
			}
			j := i + (n-i)/2
			if got := Of(nil, all[:i], []byte{}, all[i:j], nil, all[j:], nil); got != whole {
				t.Errorf("%d bytes cut at %d and %d, with empty parts: %x; want %x", n, i, j, got, whole)
			}
		}
	}
}

func TestOfManyParts(t *testing.T) {
	all := pattern(1000)
	for size := 1; size <= 200; size++ {
		if got := Of(pieces(all, size)...); got != want(all) {
			t.Errorf("parts of %d bytes: %x", size, got)
		}
	}
}

func TestOfDependsOnTheOrderOfParts(t *testing.T) {
	a, b := []byte("left"), []byte("right")
	if Of(a, b) == Of(b, a) || Of(a, b) != want([]byte("leftright")) {
		t.Error("parts are not taken in their order")
	}
}

func TestOfIgnoresSpareCapacity(t *testing.T) {
	room := pattern(200)
	if Of(room[:3], room[100:164]) != want(append(pattern(3), room[100:164]...)) {
		t.Error("bytes past the length of a part count")
	}
}

func TestPadding(t *testing.T) {
	// The length takes eight bytes: no message of a test is long enough to show the upper four.
	cases := []struct {
		length uint64
		size   int
		end    string
	}{
		{0, 64, "0000000000000000"},
		{55, 9, "00000000000001b8"},
		{56, 72, "00000000000001c0"},
		{63, 65, "00000000000001f8"},
		{64, 64, "0000000000000200"},
		{119, 9, "00000000000003b8"},
		{120, 72, "00000000000003c0"},
		{1 << 29, 64, "0000000100000000"},
		{1<<31 - 1, 65, "00000003fffffff8"},
	}
	for _, c := range cases {
		got := padding(c.length)
		want := "80" + strings.Repeat("00", c.size-9) + c.end
		if hex.EncodeToString(got) != want {
			t.Errorf("padding of %d bytes = %x; want %s", c.length, got, want)
		}
	}
}

// P2.2

func TestNewHasNothingAdded(t *testing.T) {
	s := New()
	if s == nil || s.Sum() != want(nil) {
		t.Fatal("New is not a state to which nothing has been added")
	}
	s.Add([]byte("abc"))
	if New().Sum() != want(nil) {
		t.Error("adding to one state changes the next new one")
	}
}

func TestAddManySmallParts(t *testing.T) {
	for _, n := range edges {
		s, all := New(), pattern(n)
		for i := range all {
			s.Add(all[i : i+1])
		}
		if s.Sum() != want(all) {
			t.Errorf("%d bytes one by one: %x", n, s.Sum())
		}
	}
}

func TestAddPartsOfEverySize(t *testing.T) {
	all := pattern(2000)
	for size := 1; size <= 300; size++ {
		s := New()
		for _, part := range pieces(all, size) {
			s.Add(part)
		}
		if s.Sum() != want(all) {
			t.Errorf("parts of %d bytes: %x", size, s.Sum())
		}
	}
}

func TestAddLongPartsFromEveryStart(t *testing.T) {
	for start := range 130 {
		for _, n := range []int{1, 63, 64, 65, 127, 128, 129, 640, 700} {
			s, all := New(), pattern(start+n)
			s.Add(all[:start])
			s.Add(all[start:])
			if s.Sum() != want(all) {
				t.Errorf("%d bytes behind %d: %x", n, start, s.Sum())
			}
		}
	}
}

func TestAddNothing(t *testing.T) {
	for _, n := range edges {
		s, all := New(), pattern(n)
		s.Add(nil)
		s.Add(all)
		s.Add([]byte{})
		s.Add(nil)
		if s.Sum() != want(all) {
			t.Errorf("adding no bytes changes the sum of %d bytes", n)
		}
	}
}

func TestSumAgainAndAfterMore(t *testing.T) {
	all := pattern(400)
	s := New()
	for i := range all {
		s.Add(all[i : i+1])
		for range 3 {
			if got := s.Sum(); got != want(all[:i+1]) {
				t.Fatalf("sum of %d bytes, others asked before: %x", i+1, got)
			}
		}
	}
	for _, first := range edges {
		for _, then := range edges {
			s, all := New(), pattern(first+then)
			s.Add(all[:first])
			before := s.Sum()
			s.Add(all[first:])
			if before != want(all[:first]) || s.Sum() != want(all) {
				t.Errorf("sum of %d bytes, then of %d more", first, then)
			}
		}
	}
}

func TestCopyIsIndependent(t *testing.T) {
	for _, n := range edges {
		all := pattern(n)
		s := New()
		s.Add(all)
		c := s.Copy()
		if c == nil || c == s {
			t.Fatal("Copy is no other state")
		}
		if c.Sum() != want(all) {
			t.Errorf("copy of a state of %d bytes: %x", n, c.Sum())
		}
		for size := range 70 {
			left, right := bytes.Repeat([]byte{1}, size), bytes.Repeat([]byte{2}, size+1)
			a, b := s.Copy(), c.Copy()
			a.Add(left)
			b.Add(right)
			a.Add(left)
			if a.Sum() != want(all, left, left) || b.Sum() != want(all, right) {
				t.Errorf("two copies of a state of %d bytes, each added to %d at a time, are not independent", n, size)
			}
		}
		if s.Sum() != want(all) || c.Sum() != want(all) {
			t.Errorf("adding to copies changes the state of %d bytes", n)
		}
	}
}

func TestStateAndCopyAddedToInTurn(t *testing.T) {
	s := New()
	s.Add(pattern(30))
	c := s.Copy()
	left, right := pattern(30), pattern(30)
	for i := range 300 {
		s.Add([]byte{byte(i)})
		c.Add([]byte{byte(i), 0xaa})
		left, right = append(left, byte(i)), append(right, byte(i), 0xaa)
		if s.Sum() != want(left) || c.Sum() != want(right) {
			t.Fatalf("after %d turns, a state and its copy are not independent", i+1)
		}
	}
}

func TestCopiedByValue(t *testing.T) {
	s := New()
	s.Add(pattern(70))
	c := *s
	c.Add([]byte("other"))
	s.Add([]byte("one"))
	if s.Sum() != want(pattern(70), []byte("one")) || c.Sum() != want(pattern(70), []byte("other")) {
		t.Error("a state that was copied by assignment is not independent")
	}
}

func TestNilState(t *testing.T) {
	var s *State
	s.Add(nil)
	s.Add([]byte("abc"))
	s.Add(pattern(200))
	if s.Sum() != want(nil) || s.Sum() != Of() {
		t.Errorf("Sum of a nil State = %x", s.Sum())
	}
	if s.Copy() != nil {
		t.Error("Copy of a nil State is not nil")
	}
}

// Memory (DOC.md, 'Rules that hold everywhere')

func TestArgumentsAreLeftAsTheyWere(t *testing.T) {
	for _, n := range edges {
		room := pattern(256)
		before := bytes.Clone(room)
		Of(room[:n])
		Of(room[:n], room[n:n+9], nil)
		s := New()
		s.Add(room[:n])
		s.Sum()
		s.Copy().Add(room[:7])
		s.Add(room[:n])
		s.Sum()
		if !bytes.Equal(room, before) {
			t.Errorf("a part of %d bytes or its spare capacity is changed", n)
		}
	}
	parts := make([][]byte, 3, 5)
	parts[0], parts[1] = pattern(3), pattern(64)
	Of(parts...)
	if !bytes.Equal(parts[0], pattern(3)) || !bytes.Equal(parts[1], pattern(64)) || parts[2] != nil || parts[:5][3] != nil || parts[:5][4] != nil {
		t.Error("the list of parts is changed")
	}
}

func TestAddedBytesMayBeWrittenOver(t *testing.T) {
	for _, n := range edges {
		s, room := New(), pattern(256)
		s.Add(room[:n])
		c := s.Copy()
		for i := range room {
			room[i] = 0xee
		}
		if s.Sum() != want(pattern(n)) || c.Sum() != want(pattern(n)) {
			t.Errorf("a state keeps hold of the %d bytes that were added", n)
		}
		s.Add(room[:n])
		if s.Sum() != want(pattern(n), bytes.Repeat([]byte{0xee}, n)) {
			t.Errorf("a slice of %d bytes that is filled anew and added again", n)
		}
	}
}

func TestSumsAreIndependent(t *testing.T) {
	s := New()
	s.Add([]byte("abc"))
	a := s.Sum()
	for i := range a {
		a[i] = 0
	}
	if s.Sum() != want([]byte("abc")) || Of([]byte("abc")) != want([]byte("abc")) {
		t.Error("writing to a sum changes a later one")
	}
}

// want returns the sum of the parts as the library of the language computes it.
func want(parts ...[]byte) Sum {
	return sha256.Sum256(bytes.Join(parts, nil))
}

// pieces cuts b into parts of size bytes; the last one may be shorter.
func pieces(b []byte, size int) [][]byte {
	var parts [][]byte
	for len(b) > size {
		parts = append(parts, b[:size])
		b = b[size:]
	}
	return append(parts, b)
}

// pattern returns n bytes that do not repeat with the blocks.
func pattern(n int) []byte {
	b := make([]byte, n)
	for i := range b {
		b[i] = byte(i%251 + 1)
	}
	return b
}
