package onetime

import (
	"bytes"
	"crypto/sha256"
	"encoding/hex"
	"math/big"
	"slices"
	"strings"
	"testing"

	"hypogeum/api"
)

const (
	zeroHalf = "00000000000000000000000000000000"
	onesHalf = "ffffffffffffffffffffffffffffffff"
	oneHalf  = "01000000000000000000000000000000"
	twoHalf  = "02000000000000000000000000000000"
	ietfHalf = "36e5f6b5c5e06070f0efca96227a863e"
	highHalf = "01000000000000000400000000000000"
)

const ietfText = "Any submission to the IETF intended by the Contributor for publication as all or part of an IETF Internet-Draft or RFC and any " +
	"statement made within the context of an IETF activity is considered an \"IETF Contribution\". Such statements include oral " +
	"statements in IETF sessions, as well as written and electronic communications made at any time or place, which are addressed to"

const jabberText = "'Twas brillig, and the slithy toves\nDid gyre and gimble in the wabe:\nAll mimsy were the borogoves,\nAnd the mome raths outgrabe."

// sizes are the numbers of bytes around which the number of blocks changes, and numbers far from them.
var sizes = []int{0, 1, 2, 15, 16, 17, 31, 32, 33, 47, 48, 49, 64, 100, 1000, 8192}

// vectors are the example of the chapter (RFC 8439, 2.5.2) and those of RFC 8439, A.3.
var vectors = []struct{ name, key, text, want string }{
	{"chapter", "85d6be7857556d337f4452fe42d506a80103808afb0db2fd4abff6af4149f51b",
		"Cryptographic Forum Research Group", "a8061dc1305136c6c22b8baf0c0127a9"},
	{"A.3, 1", zeroHalf + zeroHalf, strings.Repeat("\x00", 64), zeroHalf},
	{"A.3, 2", zeroHalf + ietfHalf, ietfText, ietfHalf},
	{"A.3, 3", ietfHalf + zeroHalf, ietfText, "f3477e7cd95417af89a6b8794c310cf0"},
	{"A.3, 4", "1c9240a5eb55d38af333888604f6b5f0473917c1402b80099dca5cbc207075c0", jabberText, "4541669a7eaaee61e708dc7cbcc5eb62"},
	{"A.3, 5", twoHalf + zeroHalf, string(unhex(onesHalf)), "03000000000000000000000000000000"},
	{"A.3, 6", twoHalf + onesHalf, string(unhex(twoHalf)), "03000000000000000000000000000000"},
	{"A.3, 7", oneHalf + zeroHalf, string(unhex(onesHalf + "f0ffffffffffffffffffffffffffffff" + "11000000000000000000000000000000")),
		"05000000000000000000000000000000"},
	{"A.3, 8", oneHalf + zeroHalf, string(unhex(onesHalf + "fbfefefefefefefefefefefefefefefe" + "01010101010101010101010101010101")), zeroHalf},
	{"A.3, 9", twoHalf + zeroHalf, string(unhex("fdffffffffffffffffffffffffffffff")), "faffffffffffffffffffffffffffffff"},
	{"A.3, 10", highHalf + zeroHalf, string(unhex("e33594d7505e43b90000000000000000" + "3394d7505e4379cd0100000000000000" + zeroHalf + oneHalf)),
		"14000000000000005500000000000000"},
	{"A.3, 11", highHalf + zeroHalf, string(unhex("e33594d7505e43b90000000000000000" + "3394d7505e4379cd0100000000000000" + zeroHalf)),
		"13000000000000000000000000000000"},
}

// sizeVectors are tags as OpenSSL computes them: under a key of bytes ff of as many bytes ff, and under pattern(32) of pattern.
var sizeVectors = []struct {
	size          int
	ones, pattern string
}{
	{0, "ffffffffffffffffffffffffffffffff", "1112131415161718191a1b1c1d1e1f20"},
	{1, "23feffef23f8ffef23f8ffef23f8ffef", "1215181b1d202427292c303335383c2f"},
	{15, "fbff27e6030028e6030028e6030028ee", "76cfd253eeb11f0a0d380c5cc351b41b"},
	{16, "fbffff17faffff17faffff17faffff17", "5eca212424fdbe2a93d3fbcc993dc82a"},
	{17, "7cfe7ff768f81f2763f8bf565df85f86", "f71ec27f4ca908c2d9416b581d1e0beb"},
	{31, "5400a8ed4800481d4300e84c3d008884", "4d9e112d5a2bb424f528d2cb9dbde81d"},
	{32, "5400801f3f00204f3900c07e330060ae", "5dd5b04d0803f4e543a1b22d8dd6fd3c"},
	{33, "86fa6a437bf4ec24a274504dc37495bc", "c338ed6f53ca7e98f97ec788c100013c"},
	{1000, "de9406b10e7023bcd692ff687f4cbc7f", "b07816fd13411603711ff400e7ff1016"},
}

// P6.1: Tag

func TestTagVectors(t *testing.T) {
	for _, v := range vectors {
		got, e := Tag(unhex(v.key), []byte(v.text))
		if hex.EncodeToString(got) != v.want || e != api.OK {
			t.Errorf("%s: Tag = %x, %d; want %s", v.name, got, e, v.want)
		}
	}
	for _, v := range sizeVectors {
		if got, e := Tag(ones(32), ones(v.size)); hex.EncodeToString(got) != v.ones || e != api.OK {
			t.Errorf("%d bytes ff: Tag = %x, %d; want %s", v.size, got, e, v.ones)
		}
		if got, e := Tag(pattern(32), pattern(v.size)); hex.EncodeToString(got) != v.pattern || e != api.OK {
			t.Errorf("%d bytes: Tag = %x, %d; want %s", v.size, got, e, v.pattern)
		}
	}
}

func TestTagOfEveryLength(t *testing.T) {
	for _, key := range someKeys() {
		for n := range 100 {
			checkTag(t, key, pattern(n))
			checkTag(t, key, make([]byte, n))
			checkTag(t, key, ones(n))
		}
		for _, n := range sizes {
			checkTag(t, key, pattern(n))
			checkTag(t, key, make([]byte, n))
			checkTag(t, key, ones(n))
		}
	}
}

func TestTagOfLongMessages(t *testing.T) {
	for _, n := range []int{1<<16 - 1, 1 << 16, 1<<16 + 1, 1<<20 + 5} {
		checkTag(t, pattern(32), pattern(n))
		checkTag(t, ones(32), ones(n))
	}
}

func TestTagManyKeysAndMessages(t *testing.T) {
	room := stream("keys and messages", 3000)
	for i := range 1000 {
		checkTag(t, room[i:i+32], room[i+32:i+32+i%150])
		checkTag(t, room[i:i+32], room[2*i:3*i])
	}
}

func TestTagTellsMessagesApart(t *testing.T) {
	// Zeros at the end of a message are bytes of it: the byte 1 is behind them.
	seen := map[string]int{}
	for n := range 70 {
		got, _ := Tag(pattern(32), make([]byte, n))
		if other, found := seen[string(got)]; found {
			t.Errorf("%d and %d zeros have the same tag", n, other)
		}
		seen[string(got)] = n
	}
	whole := pattern(50)
	tag, _ := Tag(pattern(32), whole)
	for i := range 8 * len(whole) {
		whole[i/8] ^= 1 << (i % 8)
		if got, _ := Tag(pattern(32), whole); bytes.Equal(got, tag) {
			t.Errorf("bit %d of a message does not count", i)
		}
		whole[i/8] ^= 1 << (i % 8)
	}
}

func TestTagOfWrongKeys(t *testing.T) {
	for _, key := range wrongKeys() {
		for _, n := range sizes {
			if got, e := Tag(key, pattern(n)); len(got) != 0 || cap(got) != 0 || e != api.ErrArg {
				t.Errorf("key of %d bytes: Tag of %d bytes = %x, %d", len(key), n, got, e)
			}
		}
		if got, e := Tag(key, nil); len(got) != 0 || e != api.ErrArg {
			t.Errorf("key of %d bytes: Tag of nil = %x, %d", len(key), got, e)
		}
	}
}

// P6.1: what the tag is made of, at the ends of its ranges

func TestSumsAroundTheModulus(t *testing.T) {
	// With r = 1, three blocks add up to 3 * 2^128 and their bytes: so every sum from there to beyond 2^130 can be had.
	three := product(3, power(128))
	for _, s := range someHalves() {
		for off := int64(-300); off <= 300; off++ {
			sum := plusSmall(modulus(), off)
			text := join(split(new(big.Int).Sub(sum, three), 3)...)
			checkTagIs(t, join(unhex(oneHalf), s), text, sum)
		}
		for limb := range 5 {
			for off := int64(-2); off <= 2; off++ {
				sum := plusSmall(new(big.Int).Sub(modulus(), power(26*limb)), off)
				text := join(split(new(big.Int).Sub(sum, three), 3)...)
				checkTagIs(t, join(unhex(oneHalf), s), text, sum)
			}
		}
	}
}

func TestSumsThatBlocksOfZerosMake(t *testing.T) {
	// With r = 1, each block of zeros adds 2^128, and four of them come to 2^130, which is 5.
	for n := range 40 {
		checkTagIs(t, unhex(oneHalf+zeroHalf), make([]byte, 16*n), product(int64(n), power(128)))
		checkTagIs(t, unhex(oneHalf+onesHalf), make([]byte, 16*n), product(int64(n), power(128)))
	}
}

func TestSumsAtWill(t *testing.T) {
	// The last block is what is missing for a product of our choice, whatever r is.
	room := stream("sums at will", 4000)
	for i, key := range someKeys() {
		r, _ := halves(key)
		if r.Sign() == 0 {
			continue
		}
		for j, sum := range someSums() {
			text := textFor(t, r, sum, room[40*i+j:])
			checkTag(t, key, text)
			checkTagIs(t, key, text, sum)
		}
	}
}

func TestSecondHalfCarriesThroughAllLimbs(t *testing.T) {
	// With r = 1, a message of one block of 16 bytes is the sum itself, apart from the bit 128, which the tag does not have.
	for bit := range 129 {
		low := plusSmall(power(bit), -1)
		for _, other := range []int64{0, 1, 2, 5} {
			key := join(unhex(oneHalf), lowBytes(low))
			checkTagIs(t, key, lowBytes(big.NewInt(other)), new(big.Int).Add(power(128), big.NewInt(other)))
			key = join(unhex(oneHalf), lowBytes(big.NewInt(other)))
			checkTagIs(t, key, lowBytes(low), new(big.Int).Add(power(128), low))
		}
		checkTagIs(t, unhex(oneHalf+onesHalf), lowBytes(low), new(big.Int).Add(power(128), low))
	}
	got, e := Tag(unhex(oneHalf+onesHalf), unhex(oneHalf))
	if !bytes.Equal(got, make([]byte, 16)) || e != api.OK {
		t.Errorf("1 and bytes ff: Tag = %x, %d", got, e)
	}
}

func TestProductsOfGreatLimbs(t *testing.T) {
	greatest := uint64(1<<28 - 1)
	eachNumber([]uint64{0, limbMask, greatest}, func(x number) {
		eachNumber([]uint64{0, 1, limbMask}, func(y number) {
			got := times(x, y)
			want := new(big.Int).Mul(value(x), value(y))
			if want.Sub(want, value(got)); want.Mod(want, modulus()).Sign() != 0 {
				t.Fatalf("times(%x, %x) = %x", x, y, got)
			}
			if got[0] > limbMask+5 || slices.Max(got[1:]) > limbMask {
				t.Fatalf("times(%x, %x) = %x, with limbs that are too great", x, y, got)
			}
		})
	})
}

func TestReducedAtTheEnds(t *testing.T) {
	lowest := []uint64{0, 1, 4, 5, 6, limbMask - 6, limbMask - 5, limbMask - 4, limbMask - 3, limbMask, limbMask + 1, limbMask + 2, limbMask + 5}
	eachNumber([]uint64{0, 1, limbMask - 1, limbMask}, func(x number) {
		for _, limb := range lowest {
			x[0] = limb
			got, want := value(reduced(x)), value(x)
			if want.Mod(want, modulus()); got.Cmp(want) != 0 {
				t.Errorf("reduced(%x) = %x; want %x", x, got, want)
			}
		}
	})
}

// P6.1: New, Add and the Adder's Tag

func TestNewHasNothingAdded(t *testing.T) {
	for _, key := range someKeys() {
		a, e := New(key)
		if a == nil || e != api.OK {
			t.Fatalf("New = %v, %d", a, e)
		}
		checkAdded(t, a, key, nil)
		a.Add([]byte("abc"))
		b, _ := New(key)
		checkAdded(t, b, key, nil)
		checkAdded(t, a, key, []byte("abc"))
	}
}

func TestNewOfWrongKeys(t *testing.T) {
	for _, key := range wrongKeys() {
		if a, e := New(key); a != nil || e != api.ErrArg {
			t.Errorf("New of %d bytes = %v, %d", len(key), a, e)
		}
	}
}

func TestAddVectors(t *testing.T) {
	for _, v := range vectors {
		for size := 1; size <= 40; size++ {
			a := adder(t, unhex(v.key))
			for part := range slices.Chunk([]byte(v.text), size) {
				a.Add(part)
			}
			if got := a.Tag(); hex.EncodeToString(got) != v.want {
				t.Errorf("%s, parts of %d bytes: %x; want %s", v.name, size, got, v.want)
			}
		}
	}
}

func TestAddPartsOfAllLengths(t *testing.T) {
	lengths := []int{0, 1, 15, 16, 17, 31, 32, 33, 100}
	room := stream("parts", 400)
	for _, key := range someKeys() {
		for _, first := range lengths {
			for _, second := range lengths {
				for _, third := range lengths {
					all := room[:first+second+third]
					a, quiet := adder(t, key), adder(t, key)
					at := 0
					for _, n := range []int{first, second, third} {
						a.Add(all[at : at+n])
						quiet.Add(all[at : at+n])
						at += n
						checkAdded(t, a, key, all[:at])
						checkAdded(t, a, key, all[:at])
					}
					checkAdded(t, quiet, key, all)
				}
			}
		}
	}
}

func TestAddOneByOne(t *testing.T) {
	for _, key := range someKeys() {
		a, all := adder(t, key), pattern(300)
		for i := range all {
			a.Add(all[i : i+1])
			checkAdded(t, a, key, all[:i+1])
		}
	}
}

func TestAddPartsOfEverySize(t *testing.T) {
	all := pattern(1000)
	for size := 1; size <= 200; size++ {
		a := adder(t, pattern(32))
		for part := range slices.Chunk(all, size) {
			a.Add(part)
		}
		checkAdded(t, a, pattern(32), all)
	}
}

func TestAddPartsThatGrow(t *testing.T) {
	a, all := adder(t, ones(32)), stream("parts that grow", 3000)
	at := 0
	for n := 0; at+n <= len(all); n++ {
		a.Add(all[at : at+n])
		at += n
		checkAdded(t, a, ones(32), all[:at])
	}
}

func TestAddNothing(t *testing.T) {
	for _, n := range sizes {
		a, all := adder(t, pattern(32)), pattern(n)
		a.Add(nil)
		a.Add(all)
		a.Add([]byte{})
		a.Add(nil)
		a.Add(all[:0])
		a.Add(all[n:])
		checkAdded(t, a, pattern(32), all)
		a.Add(pattern(5))
		checkAdded(t, a, pattern(32), join(all, pattern(5)))
	}
}

func TestTagIsNotAddedTo(t *testing.T) {
	a := adder(t, pattern(32))
	a.Add(pattern(20))
	before := a.Tag()
	a.Add(pattern(20))
	if want, _ := Tag(pattern(32), pattern(20)); !bytes.Equal(before, want) {
		t.Errorf("a tag that was returned changes to %x when more is added", before)
	}
}

func TestTwoAddersAreIndependent(t *testing.T) {
	for _, same := range []bool{true, false} {
		oneKey, otherKey := pattern(32), pattern(33)[1:]
		if same {
			otherKey = pattern(32)
		}
		one, other := adder(t, oneKey), adder(t, otherKey)
		left, right := []byte{}, []byte{}
		for i := range 60 {
			l, r := pattern(i%19), stream("right", i%23)
			one.Add(l)
			other.Add(r)
			left, right = append(left, l...), append(right, r...)
			checkAdded(t, one, oneKey, left)
			checkAdded(t, other, otherKey, right)
		}
	}
}

func TestCopiedByValue(t *testing.T) {
	for _, n := range sizes {
		a := adder(t, pattern(32))
		a.Add(pattern(n))
		c := *a
		c.Add([]byte("other"))
		a.Add([]byte("one"))
		checkAdded(t, a, pattern(32), join(pattern(n), []byte("one")))
		checkAdded(t, &c, pattern(32), join(pattern(n), []byte("other")))
	}
}

func TestNilAdder(t *testing.T) {
	var a *Adder
	for range 2 {
		a.Add(nil)
		a.Add([]byte{})
		for _, n := range sizes {
			a.Add(pattern(n))
		}
		if got := a.Tag(); len(got) != 0 {
			t.Errorf("Tag of a nil Adder = %x", got)
		}
	}
	none, _ := New(nil)
	none.Add([]byte("abc"))
	if got := none.Tag(); len(got) != 0 {
		t.Errorf("Tag of the Adder of a wrong key = %x", got)
	}
}

// P6.2

func TestTagOfNothingIsTheSecondHalf(t *testing.T) {
	for _, key := range append(someKeys(), pattern(32), ones(32), make([]byte, 32)) {
		for _, b := range [][]byte{nil, {}, pattern(50)[:0], pattern(50)[50:]} {
			if got, e := Tag(key, b); !bytes.Equal(got, key[16:]) || e != api.OK {
				t.Errorf("key %x: Tag of nothing = %x, %d", key, got, e)
			}
			a := adder(t, key)
			for range 3 {
				if got := a.Tag(); !bytes.Equal(got, key[16:]) {
					t.Errorf("key %x: nothing has been added, and the tag is %x", key, got)
				}
				a.Add(b)
			}
		}
	}
}

func TestClearedBitsDoNotCount(t *testing.T) {
	for _, key := range someKeys() {
		for _, n := range sizes[:12] {
			text := stream("cleared bits", n)
			tag, _ := Tag(key, text)
			all := bytes.Clone(key)
			for _, bit := range clearedBits() {
				one := bytes.Clone(key)
				one[bit/8] ^= 1 << (bit % 8)
				all[bit/8] ^= 1 << (bit % 8)
				if got, e := Tag(one, text); !bytes.Equal(got, tag) || e != api.OK {
					t.Errorf("key %x, %d bytes: bit %d of the key counts", key, n, bit)
				}
				if got, e := Tag(all, text); !bytes.Equal(got, tag) || e != api.OK {
					t.Errorf("key %x, %d bytes: bits up to %d of the key count", key, n, bit)
				}
			}
		}
	}
}

func TestAllOtherBitsCount(t *testing.T) {
	cleared := clearedBits()
	for _, key := range someKeys() {
		seen := map[string]int{}
		for bit := range 256 {
			if slices.Contains(cleared, bit) {
				continue
			}
			one := bytes.Clone(key)
			one[bit/8] ^= 1 << (bit % 8)
			checkTag(t, one, []byte("a text of more than one block"))
			got, _ := Tag(one, []byte("a text of more than one block"))
			if other, found := seen[string(got)]; found {
				t.Errorf("key %x: the bits %d and %d make the same tag", key, bit, other)
			}
			seen[string(got)] = bit
		}
		tag, _ := Tag(key, []byte("a text of more than one block"))
		if bit, found := seen[string(tag)]; found {
			t.Errorf("key %x: bit %d of the key does not count", key, bit)
		}
	}
}

func TestZeroFactorLeavesTheSecondHalf(t *testing.T) {
	// r is 0 of zeros, of all cleared bits, and of each of these alone.
	firsts := [][]byte{make([]byte, 16), make([]byte, 16)}
	for _, bit := range clearedBits() {
		firsts[1][bit/8] |= 1 << (bit % 8)
		alone := make([]byte, 16)
		alone[bit/8] = 1 << (bit % 8)
		firsts = append(firsts, alone)
	}
	for _, first := range firsts {
		for _, s := range someHalves() {
			for _, n := range sizes {
				for _, text := range [][]byte{pattern(n), ones(n), make([]byte, n)} {
					if got, e := Tag(join(first, s), text); !bytes.Equal(got, s) || e != api.OK {
						t.Errorf("%x, s %x: Tag of %d bytes = %x, %d", first, s, n, got, e)
					}
				}
			}
		}
	}
}

// Memory (DOC.md, 'Rules that hold everywhere')

func TestArgumentsAreLeftAsTheyWere(t *testing.T) {
	for _, k := range []int{0, 16, 31, 32, 33} {
		for _, n := range []int{0, 1, 15, 16, 17, 31, 32, 33, 100} {
			keys, texts := ones(64), pattern(256)
			Tag(keys[:k], texts[:n])
			if a, e := New(keys[:k]); e == api.OK {
				a.Add(texts[:n])
				a.Tag()
				a.Add(texts[:n])
				a.Add(texts[n : n+7])
				a.Tag()
			}
			if !bytes.Equal(keys, ones(64)) || !bytes.Equal(texts, pattern(256)) {
				t.Errorf("a key of %d bytes, %d bytes of a message, or their spare capacity are changed", k, n)
			}
		}
	}
}

func TestSpareCapacityDoesNotCount(t *testing.T) {
	room := pattern(300)
	for _, n := range []int{0, 1, 15, 16, 17, 31, 32, 33, 100} {
		want, _ := Tag(bytes.Clone(room[:32]), bytes.Clone(room[100:100+n]))
		if got, e := Tag(room[:32], room[100:100+n]); !bytes.Equal(got, want) || e != api.OK {
			t.Errorf("bytes past the length of %d bytes count", n)
		}
		a := adder(t, room[:32])
		a.Add(room[100 : 100+n])
		checkAdded(t, a, room[:32], room[100:100+n])
	}
	for _, k := range []int{0, 16, 31} {
		if _, e := Tag(room[:k], nil); e != api.ErrArg {
			t.Errorf("the spare capacity of a key of %d bytes counts for Tag", k)
		}
		if _, e := New(room[:k]); e != api.ErrArg {
			t.Errorf("the spare capacity of a key of %d bytes counts for New", k)
		}
	}
}

func TestArgumentsMayShareMemory(t *testing.T) {
	room := pattern(100)
	for n := range 100 {
		checkTag(t, room[:32], room[:n])
		a := adder(t, room[:32])
		a.Add(room[:n])
		a.Add(room[:n])
		checkAdded(t, a, room[:32], join(room[:n], room[:n]))
	}
	if !bytes.Equal(room, pattern(100)) {
		t.Error("arguments that share memory are changed")
	}
}

func TestWhatWasHandedInMayBeWrittenOver(t *testing.T) {
	for _, n := range sizes {
		key, text := pattern(32), pattern(n)
		tag, _ := Tag(key, text)
		a := adder(t, key)
		overwrite(key)
		a.Add(text)
		overwrite(text)
		checkAdded(t, a, pattern(32), pattern(n))
		clear(key)
		a.Add(text)
		clear(text)
		checkAdded(t, a, pattern(32), join(pattern(n), overwritten(pattern(n))))
		if want := wantTag(pattern(32), pattern(n)); !bytes.Equal(tag, want) {
			t.Errorf("the tag of %d bytes changes with what was handed in", n)
		}
	}
}

func TestResultsAreIndependent(t *testing.T) {
	for _, n := range sizes {
		key, text := pattern(32), pattern(n)
		a := adder(t, key)
		a.Add(text)
		first, second := a.Tag(), a.Tag()
		third, _ := Tag(key, text)
		fourth, _ := Tag(key, text)
		want := wantTag(pattern(32), pattern(n))
		overwrite(first[:cap(first)])
		overwrite(third[:cap(third)])
		if !bytes.Equal(second, want) || !bytes.Equal(fourth, want) {
			t.Errorf("two tags of %d bytes share memory", n)
		}
		checkAdded(t, a, pattern(32), pattern(n))
		if !bytes.Equal(key, pattern(32)) || !bytes.Equal(text, pattern(n)) {
			t.Errorf("a tag of %d bytes shares memory with an argument", n)
		}
		a.Add([]byte("more"))
		checkAdded(t, a, pattern(32), join(pattern(n), []byte("more")))
	}
}

func TestAnErrorChangesNothing(t *testing.T) {
	a := adder(t, pattern(32))
	a.Add(pattern(20))
	for _, key := range wrongKeys() {
		New(key)
		Tag(key, pattern(20))
	}
	checkAdded(t, a, pattern(32), pattern(20))
}

// adder returns a new Adder of a key that must be right.
func adder(t *testing.T, key []byte) *Adder {
	t.Helper()
	a, e := New(key)
	if a == nil || e != api.OK {
		t.Fatalf("New of %d bytes = %v, %d", len(key), a, e)
	}
	return a
}

// checkTag fails unless Tag returns what wantTag computes.
func checkTag(t *testing.T, key, b []byte) {
	t.Helper()
	if got, e := Tag(key, b); !bytes.Equal(got, wantTag(key, b)) || e != api.OK {
		t.Errorf("key %x: Tag of %d bytes = %x, %d; want %x", key, len(b), got, e, wantTag(key, b))
	}
}

// checkTagIs fails unless the tag of b is that of a sum, before it is reduced, under the second half of the key.
func checkTagIs(t *testing.T, key, b []byte, sum *big.Int) {
	t.Helper()
	_, s := halves(key)
	want := lowBytes(s.Add(s, new(big.Int).Mod(sum, modulus())))
	if got, e := Tag(key, b); !bytes.Equal(got, want) || e != api.OK {
		t.Errorf("key %x, sum %x: Tag of %x = %x, %d; want %x", key, sum, b, got, e, want)
	}
}

// checkAdded fails unless the Adder's tag is what wantTag computes of all that has been added.
func checkAdded(t *testing.T, a *Adder, key, all []byte) {
	t.Helper()
	if got := a.Tag(); !bytes.Equal(got, wantTag(key, all)) {
		t.Errorf("key %x: %d bytes have been added, and the tag is %x; want %x", key, len(all), got, wantTag(key, all))
	}
}

// wantTag returns a tag as the chapter defines it, computed with the great numbers of the library.
func wantTag(key, b []byte) []byte {
	r, s := halves(key)
	return lowBytes(s.Add(s, wantSum(r, b)))
}

// wantSum returns what is a, behind the last block of b.
func wantSum(r *big.Int, b []byte) *big.Int {
	a, p := new(big.Int), modulus()
	for block := range slices.Chunk(b, 16) {
		a.Add(a, lowNumber(join(block, []byte{1})))
		a.Mod(a.Mul(a, r), p)
	}
	return a
}

// halves returns r and s of a key.
func halves(key []byte) (r, s *big.Int) {
	r = lowNumber(key[:16])
	for _, bit := range clearedBits() {
		r.SetBit(r, bit, 0)
	}
	return r, lowNumber(key[16:])
}

// clearedBits returns which bits of a key are cleared in r.
func clearedBits() []int {
	bits := []int{}
	for _, i := range []int{3, 7, 11, 15} {
		bits = append(bits, 8*i+4, 8*i+5, 8*i+6, 8*i+7)
	}
	for _, i := range []int{4, 8, 12} {
		bits = append(bits, 8*i, 8*i+1)
	}
	return bits
}

// textFor returns a message whose sum, under r, is the given one: one to four blocks, taken from room, and the one that is then missing.
func textFor(t *testing.T, r, sum *big.Int, room []byte) []byte {
	t.Helper()
	before := new(big.Int).Mul(new(big.Int).ModInverse(r, modulus()), sum)
	for i := range 1000 {
		first := room[i : i+16*(1+i%4)]
		last := new(big.Int).Sub(before, wantSum(r, first))
		// It has to be a number that 16 bytes followed by a byte 1 encode; about one of four is.
		if last.Mod(last, modulus()); last.BitLen() == 129 {
			return join(first, lowBytes(last))
		}
	}
	t.Fatalf("no message has the sum %x under %x", sum, r)
	return nil
}

// someSums returns sums, all of them below the modulus, around its ends, the ends of limbs and those of 128 bits.
func someSums() []*big.Int {
	sums := []*big.Int{}
	for off := int64(0); off < 10; off++ {
		sums = append(sums, big.NewInt(off), plusSmall(modulus(), -off-1))
	}
	for _, bit := range []int{26, 32, 52, 64, 78, 96, 104, 128, 129} {
		for off := int64(-2); off <= 2; off++ {
			sums = append(sums, plusSmall(power(bit), off))
		}
	}
	return sums
}

// split returns count blocks of 16 bytes whose numbers add up to n.
func split(n *big.Int, count int) [][]byte {
	blocks := [][]byte{}
	most := plusSmall(power(128), -1)
	for range count {
		part := new(big.Int).Set(n)
		if part.Cmp(most) > 0 {
			part.Set(most)
		}
		n = new(big.Int).Sub(n, part)
		blocks = append(blocks, lowBytes(part))
	}
	return blocks
}

// eachNumber calls visit with each number all limbs of which are among the given ones.
func eachNumber(among []uint64, visit func(x number)) {
	count := 1
	for range limbs {
		count *= len(among)
	}
	for n := range count {
		x := number{}
		for i := range limbs {
			x[i] = among[n%len(among)]
			n /= len(among)
		}
		visit(x)
	}
}

// value returns what a number is.
func value(x number) *big.Int {
	n := new(big.Int)
	for i, limb := range x {
		part := new(big.Int).SetUint64(limb)
		n.Add(n, part.Lsh(part, uint(26*i)))
	}
	return n
}

// modulus returns 2^130 - 5.
func modulus() *big.Int { return plusSmall(power(130), -5) }

// power returns 2^n.
func power(n int) *big.Int { return new(big.Int).Lsh(big.NewInt(1), uint(n)) }

// plusSmall returns n + off.
func plusSmall(n *big.Int, off int64) *big.Int { return new(big.Int).Add(n, big.NewInt(off)) }

// product returns count * n.
func product(count int64, n *big.Int) *big.Int { return new(big.Int).Mul(big.NewInt(count), n) }

// lowNumber returns the number that b encodes, little-endian.
func lowNumber(b []byte) *big.Int {
	b = bytes.Clone(b)
	slices.Reverse(b)
	return new(big.Int).SetBytes(b)
}

// lowBytes returns n, modulo 2^128, in 16 bytes, little-endian.
func lowBytes(n *big.Int) []byte {
	b := new(big.Int).Mod(n, power(128)).FillBytes(make([]byte, 16))
	slices.Reverse(b)
	return b
}

// someKeys returns keys of 32 bytes: those at the ends, those with few bits, and some like any other.
func someKeys() [][]byte {
	keys := [][]byte{pattern(32), stream("key", 32), stream("another key", 32)}
	for _, r := range []string{zeroHalf, oneHalf, twoHalf, highHalf, onesHalf, "ffffff0ffcffff0ffcffff0ffcffff0f", "00000000000000000000000000000008"} {
		for _, s := range someHalves() {
			keys = append(keys, join(unhex(r), s))
		}
	}
	return keys
}

// someHalves returns halves of keys that may be s.
func someHalves() [][]byte {
	return [][]byte{unhex(zeroHalf), unhex(oneHalf), unhex(onesHalf), unhex(ietfHalf)}
}

// wrongKeys returns keys that have not 32 bytes.
func wrongKeys() [][]byte {
	return [][]byte{nil, {}, pattern(1), pattern(15), pattern(16), pattern(17), pattern(31), pattern(33), pattern(64), pattern(1000), ones(31), ones(33)}
}

// join returns the parts, one behind the other, in memory of their own.
func join(parts ...[]byte) []byte { return bytes.Join(parts, nil) }

// ones returns n bytes ff.
func ones(n int) []byte { return bytes.Repeat([]byte{0xff}, n) }

// stream returns n bytes that are made of a name and have no pattern.
func stream(name string, n int) []byte {
	b := []byte{}
	for sum := sha256.Sum256([]byte(name)); len(b) < n; sum = sha256.Sum256(sum[:]) {
		b = append(b, sum[:]...)
	}
	return b[:n:n]
}

// overwrite changes every byte of b.
func overwrite(b []byte) {
	for i := range b {
		b[i] ^= 0xee
	}
}

// overwritten returns b after overwrite.
func overwritten(b []byte) []byte {
	overwrite(b)
	return b
}

// pattern returns n bytes that do not repeat with the blocks.
func pattern(n int) []byte {
	b := make([]byte, n)
	for i := range b {
		b[i] = byte(i%251 + 1)
	}
	return b
}

// unhex returns the bytes that are written as hexadecimal digits.
func unhex(s string) []byte {
	b, err := hex.DecodeString(s)
	if err != nil {
		panic(err)
	}
	return b
}
