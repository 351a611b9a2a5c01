package box

import (
	"bytes"
	"crypto/sha256"
	"encoding/binary"
	"encoding/hex"
	"fmt"
	"math"
	"slices"
	"testing"

	"hypogeum/api"
	"hypogeum/cipher"
	"hypogeum/onetime"
)

// sizes are the lengths around which the padding or the number of blocks changes, and lengths far from them.
var sizes = []int{0, 1, 15, 16, 17, 31, 32, 33, 63, 64, 65, 1000}

// vectors are the example of the chapter (RFC 8439, 2.8.2) and that of RFC 8439, A.5.
var vectors = []struct{ name, key, nonce, other, text, box string }{
	{"2.8.2", "808182838485868788898a8b8c8d8e8f909192939495969798999a9b9c9d9e9f", "070000004041424344454647", "50515253c0c1c2c3c4c5c6c7",
		"Ladies and Gentlemen of the class of '99: If I could offer you only one tip for the future, sunscreen would be it.",
		"d31a8d34648e60db7b86afbc53ef7ec2a4aded51296e08fea9e2b5a736ee62d63dbea45e8ca9671282fafb69da92728b1a71de0a9e060b2905d6a5b67ecd3b36" +
			"92ddbd7f2d778b8c9803aee328091b58fab324e4fad675945585808b4831d7bc3ff4def08e4b7a9de576d26586cec64b6116" +
			"1ae10b594f09e26a7e902ecbd0600691"},
	{"A.5", "1c9240a5eb55d38af333888604f6b5f0473917c1402b80099dca5cbc207075c0", "000000000102030405060708", "f33388860000000000004e91",
		"Internet-Drafts are draft documents valid for a maximum of six months and may be updated, replaced, or obsoleted by other documents " +
			"at any time. It is inappropriate to use Internet-Drafts as reference material or to cite them other than as /“work in progress./”",
		"64a0861575861af460f062c79be643bd5e805cfd345cf389f108670ac76c8cb24c6cfc18755d43eea09ee94e382d26b0bdb7b73c321b0100d4f03b7f355894cf" +
			"332f830e710b97ce98c8a84abd0b948114ad176e008d33bd60f982b1ff37c8559797a06ef4f0ef61c186324e2b3506383606907b6a7c02b0f9f6157b53c867e4" +
			"b9166c767b804d46a59b5216cde7a4e99040c5a40433225ee282a1b0a06c523eaf4534d7f83fa1155b0047718cbc546a0d072b04b3564eea1b422273f548271a" +
			"0bb2316053fa76991955ebd63159434ecebb4e466dae5a1073a6727627097a1049e617d91d361094fa68f0ff77987130305beaba2eda04df997b714d6c6f2c29" +
			"a6ad5cb4022b02709b" +
			"eead9d67890cbb22392336fea1851f38"},
}

// sizeVectors are tags as OpenSSL computes them for associated data and texts of these lengths: all made by pattern, or of bytes ff.
var sizeVectors = []struct {
	other, text   int
	pattern, ones string
}{
	{0, 0, "923eba6d36b92f973004480f2f5f3917", "0b5528ab3ff425fbf1fce9fcfb979029"},
	{0, 1, "c7355af9febcdc747611e1c103e1406b", "1a97b3f469f5560d7aadccbec2978ad6"},
	{1, 0, "d7cf903e2aba78707dd8903a2e27f5c0", "1025d66e5d7faeff7ce9d831679832cd"},
	{1, 1, "007fa25c0411a6be131a007d15378150", "41f0ac1fbb2aa606c485395f7797da20"},
	{15, 17, "e90c096a4360d272d4b4909ae675b9c9", "f68506ba992b8ca61db70b8c4068909b"},
	{16, 16, "3b5248b85bc35c1e319f1de2d445f41a", "d8ae4f8a6eb98f32471e5fcb147b5e40"},
	{17, 15, "0d5a54803a690aef1a2c9b7416eb6186", "42dd4ddf44b2b78f222acb107d407bb7"},
	{31, 33, "53f8442f0f910379b2dae4ff8bdb1c8e", "df20a4b5371d21d4f801d4975bbb8eb6"},
	{32, 32, "9ccd548b8adaa28a24f313057cacba08", "fbb03c214642dd3eedfde2e706fe620e"},
	{33, 31, "44c5c3ba1a69aa5992c6e16fd582115a", "fc20a811cddbb74643f662ebae7104ab"},
	{63, 65, "4c72722773916314eb52b816bb2609b0", "2bfe1a3e04d873b0fe37325c25ed83d6"},
	{64, 64, "8c5746ef5dd19eed12ade17b5bbe7fcc", "d38468e904e0947ca426a77a8428df6f"},
	{65, 63, "76cfc2aac0d6f141e63eddbe98f8c5d6", "48532ce384a32f6bf000b239bd2c1b0d"},
	{0, 256, "aa2001727dab07d135b26d931eed58b0", "28256d78849160dbdd88309dcc4efc54"},
	{256, 0, "41a01b790943db7e9558a70b4bf6166b", "c4138236f7c97967d4d993cb8d493ccf"},
	{255, 257, "a580d97744742405a0f85bd82aba6a1f", "66eb2c14def19dd63692a5e035c20b72"},
	{1000, 8192, "dadc68acf2556ef3f019e0f3baffbc2c", "c683260daf547732cd0b755805af08a7"},
	{8192, 1000, "044b06092c2dd79abe35c0b014a2e290", "762f586dc4e7fd76414b1f774af881c1"},
	{65536, 70000, "f638984f565c60b66df3d47ea8b7518f", "bba78188b927c80663c40ddef343d0f9"},
	{70000, 65536, "1a62a668ae17ff19596e92d32d603217", "1caa2c49a1001bf333dfdb3a6f13e861"},
}

// pairsSum is the SHA-256 of all boxes, made by OpenSSL from pattern, for each length of associated data in sizes and, within it, each length of a text.
const pairsSum = "675f37b3ae886f19e0cd8312bf8773fa569366dda69216ccf1f5bbee76a2a13c"

// P7.1: Seal

func TestSealVectors(t *testing.T) {
	for _, v := range vectors {
		got, e := Seal(unhex(v.key), unhex(v.nonce), unhex(v.other), []byte(v.text))
		if hex.EncodeToString(got) != v.box || e != api.OK {
			t.Errorf("%s: Seal = %x, %d; want %s", v.name, got, e, v.box)
		}
	}
}

func TestSealSizeVectors(t *testing.T) {
	for _, v := range sizeVectors {
		got := sealed(t, pattern(32), pattern(12), pattern(v.other), pattern(v.text))
		if tag := hex.EncodeToString(got[len(got)-16:]); tag != v.pattern {
			t.Errorf("%d and %d bytes: the tag is %s; want %s", v.other, v.text, tag, v.pattern)
		}
		got = sealed(t, ones(32), ones(12), ones(v.other), ones(v.text))
		if tag := hex.EncodeToString(got[len(got)-16:]); tag != v.ones {
			t.Errorf("%d and %d bytes ff: the tag is %s; want %s", v.other, v.text, tag, v.ones)
		}
	}
}

func TestSealAllPairsOfSizes(t *testing.T) {
	all := []byte{}
	for _, other := range sizes {
		for _, text := range sizes {
			all = append(all, sealed(t, pattern(32), pattern(12), pattern(other), pattern(text))...)
		}
	}
	if sum := sha256.Sum256(all); hex.EncodeToString(sum[:]) != pairsSum {
		t.Errorf("the boxes of all pairs of sizes have the sum %x; want %s", sum, pairsSum)
	}
}

func TestSealGreatLengths(t *testing.T) {
	// More bytes than three bytes of a length can tell.
	great := pattern(1<<24 + 3)
	b := sealed(t, pattern(32), pattern(12), great, pattern(20))
	if tag := hex.EncodeToString(b[20:]); tag != "2633b14144065d18a1696e58ca031c2b" {
		t.Errorf("great associated data: the tag is %s", tag)
	}
	b = sealed(t, pattern(32), pattern(12), pattern(20), great)
	if sum := sha256.Sum256(b); hex.EncodeToString(sum[:]) != "b28c8ab8876f61ca6a49860e0f3523ae7952d98fddb8aab2ff8876953f0eb881" {
		t.Errorf("a great text: the box has the sum %x", sum)
	}
	checkOpen(t, pattern(32), pattern(12), pattern(20), b, great)
}

func TestSealAsTheChapterDefinesIt(t *testing.T) {
	eachKey(func(key, nonce []byte) {
		for _, other := range someParts() {
			for _, text := range someParts() {
				checkSeal(t, key, nonce, other, text)
			}
		}
	})
}

func TestSealEveryLength(t *testing.T) {
	for n := range 300 {
		checkSeal(t, pattern(32), pattern(12), pattern(20), pattern(n))
		checkSeal(t, pattern(32), pattern(12), pattern(n), pattern(20))
		checkSeal(t, pattern(32), pattern(12), pattern(n), pattern(n))
	}
}

func TestSealManyInputs(t *testing.T) {
	room := stream("keys, nonces and texts", 4000)
	for i := range 1000 {
		checkSeal(t, room[i:i+32], room[i+32:i+44], room[i:i+i%70], room[2*i:2*i+i%190])
	}
}

func TestSealOfNothing(t *testing.T) {
	for _, text := range [][]byte{nil, {}, pattern(9)[:0], pattern(9)[9:]} {
		for _, other := range [][]byte{nil, {}, pattern(9)[:0], pattern(9)[9:]} {
			got := sealed(t, pattern(32), pattern(12), other, text)
			if hex.EncodeToString(got) != sizeVectors[0].pattern {
				t.Errorf("the box of nothing is %x", got)
			}
		}
		if got := sealed(t, pattern(32), pattern(12), pattern(33), text); len(got) != 16 {
			t.Errorf("the box of an empty text has %d bytes", len(got))
		}
	}
}

func TestSealOfWrongLengths(t *testing.T) {
	eachWrong(func(key, nonce []byte) {
		for _, other := range someParts() {
			for _, text := range someParts() {
				if got, e := Seal(key, nonce, other, text); len(got) != 0 || cap(got) != 0 || e != api.ErrArg {
					t.Errorf("key of %d bytes, nonce of %d: Seal of %d and %d bytes = %x, %d", len(key), len(nonce), len(other), len(text), got, e)
				}
			}
		}
	})
}

func TestEveryPartCountsForTheTag(t *testing.T) {
	// The parts are: the key, the nonce, the associated data, the text.
	parts := [4][]byte{pattern(32), pattern(12), pattern(21), pattern(37)}
	names := [4]string{"key", "nonce", "associated data", "text"}
	seen := map[string]string{}
	note := func(what string) {
		b := sealed(t, parts[0], parts[1], parts[2], parts[3])
		tag := string(b[len(b)-16:])
		if before, found := seen[tag]; found {
			t.Errorf("%s and %s make the same tag", before, what)
		}
		seen[tag] = what
	}
	note("no bit that is turned")
	for i, part := range parts {
		eachBit(part, func(bit int) { note(fmt.Sprintf("bit %d of the %s", bit, names[i])) })
	}
}

// P7.1: Size

func TestSize(t *testing.T) {
	for _, n := range []int{0, 1, 15, 16, 17, 100, 8192, 1 << 16, math.MaxInt32 - 17, math.MaxInt32 - 16, 1 << 31, 1 << 40, math.MaxInt - 17, math.MaxInt - 16} {
		if got := Size(n); got != n+16 || got < 16 {
			t.Errorf("Size(%d) = %d", n, got)
		}
	}
	for _, n := range []int{-1, -2, -15, -16, -17, -8192, math.MinInt32, math.MinInt + 15, math.MinInt + 1, math.MinInt} {
		if got := Size(n); got != 16 {
			t.Errorf("Size(%d) = %d", n, got)
		}
	}
}

func TestSizeIsThatOfTheBox(t *testing.T) {
	for n := range 200 {
		if got := sealed(t, pattern(32), pattern(12), pattern(n%30), pattern(n)); len(got) != Size(n) {
			t.Errorf("the box of %d bytes has %d bytes, and Size says %d", n, len(got), Size(n))
		}
	}
}

// P7.2

func TestOpenVectors(t *testing.T) {
	for _, v := range vectors {
		checkOpen(t, unhex(v.key), unhex(v.nonce), unhex(v.other), unhex(v.box), []byte(v.text))
	}
	for _, v := range sizeVectors {
		c := mixed(pattern(32), pattern(12), pattern(v.text))
		checkOpen(t, pattern(32), pattern(12), pattern(v.other), join(c, unhex(v.pattern)), pattern(v.text))
		checkRefused(t, pattern(32), pattern(12), pattern(v.other), join(c, unhex(v.ones)), api.ErrSeal)
	}
}

func TestOpenWhatNobodySealed(t *testing.T) {
	// Every sequence of bytes is a ciphertext; its tag alone says whether it is opened.
	for _, other := range someParts() {
		for _, c := range someParts() {
			b := join(c, wantTag(pattern(32), pattern(12), other, c))
			checkOpen(t, pattern(32), pattern(12), other, b, mixed(pattern(32), pattern(12), c))
		}
	}
}

func TestOpenOfWrongLengths(t *testing.T) {
	right := sealed(t, pattern(32), pattern(12), nil, pattern(20))
	eachWrong(func(key, nonce []byte) {
		// Of these boxes, all but the first are too short, or have a wrong tag, too: ErrArg goes first.
		for _, b := range [][]byte{right, nil, {}, pattern(1), pattern(15), pattern(16), pattern(17), pattern(100)} {
			checkRefused(t, key, nonce, nil, b, api.ErrArg)
			checkRefused(t, key, nonce, pattern(20), b, api.ErrArg)
		}
	})
}

func TestOpenOfShortBoxes(t *testing.T) {
	for _, other := range someParts() {
		checkRefused(t, pattern(32), pattern(12), other, nil, api.ErrShort)
		whole := sealed(t, pattern(32), pattern(12), other, nil)
		for n := range 16 {
			checkRefused(t, pattern(32), pattern(12), other, make([]byte, n), api.ErrShort)
			checkRefused(t, pattern(32), pattern(12), other, whole[:n], api.ErrShort)
			checkRefused(t, pattern(32), pattern(12), other, whole[16-n:], api.ErrShort)
		}
		checkOpen(t, pattern(32), pattern(12), other, whole, nil)
	}
}

func TestOpenOfTheShortestBoxes(t *testing.T) {
	for _, n := range []int{16, 17} {
		checkRefused(t, pattern(32), pattern(12), nil, make([]byte, n), api.ErrSeal)
		checkRefused(t, pattern(32), pattern(12), nil, ones(n), api.ErrSeal)
		checkRefused(t, pattern(32), pattern(12), nil, pattern(n), api.ErrSeal)
		b := sealed(t, pattern(32), pattern(12), nil, pattern(n-16))
		checkOpen(t, pattern(32), pattern(12), nil, b, pattern(n-16))
	}
}

func TestOpenAfterOneBitIsTurned(t *testing.T) {
	for _, n := range []int{0, 1, 15, 16, 17, 64, 65} {
		for _, other := range [][]byte{nil, pattern(5), pattern(16)} {
			b := sealed(t, pattern(32), pattern(12), other, pattern(n))
			eachBit(b, func(int) { checkRefused(t, pattern(32), pattern(12), other, b, api.ErrSeal) })
			checkOpen(t, pattern(32), pattern(12), other, b, pattern(n))
		}
	}
}

func TestOpenAfterBytesOfTheTagAreTurned(t *testing.T) {
	// Differences that would cancel out if they were summed up, or that leave most of the tag as it was.
	b := sealed(t, pattern(32), pattern(12), pattern(5), pattern(20))
	for i := range 16 {
		for j := range i {
			other := bytes.Clone(b)
			other[20+i] ^= 0x80
			other[20+j] ^= 0x80
			checkRefused(t, pattern(32), pattern(12), pattern(5), other, api.ErrSeal)
		}
	}
	slices.Reverse(b[20:])
	checkRefused(t, pattern(32), pattern(12), pattern(5), b, api.ErrSeal)
}

func TestOpenAfterBytesAreCutOrAdded(t *testing.T) {
	for _, n := range sizes {
		for _, other := range [][]byte{nil, pattern(5), pattern(16)} {
			b := sealed(t, pattern(32), pattern(12), other, pattern(n))
			want := api.ErrSeal
			if n == 0 {
				want = api.ErrShort
			}
			checkRefused(t, pattern(32), pattern(12), other, b[1:], want)
			checkRefused(t, pattern(32), pattern(12), other, b[:len(b)-1], want)
			for _, more := range []byte{0, 1, 0xff, b[0], b[len(b)-1]} {
				checkRefused(t, pattern(32), pattern(12), other, join([]byte{more}, b), api.ErrSeal)
				checkRefused(t, pattern(32), pattern(12), other, join(b, []byte{more}), api.ErrSeal)
				checkRefused(t, pattern(32), pattern(12), other, join(b[:n], []byte{more}, b[n:]), api.ErrSeal)
			}
			if n > 0 {
				checkRefused(t, pattern(32), pattern(12), other, join(b[:n-1], b[n:]), api.ErrSeal)
			}
		}
	}
}

func TestOpenUnderAnotherKeyOrNonce(t *testing.T) {
	for _, n := range []int{0, 1, 16, 65} {
		key, nonce := pattern(32), pattern(12)
		b := sealed(t, key, nonce, pattern(5), pattern(n))
		eachBit(key, func(int) { checkRefused(t, key, nonce, pattern(5), b, api.ErrSeal) })
		eachBit(nonce, func(int) { checkRefused(t, key, nonce, pattern(5), b, api.ErrSeal) })
		checkOpen(t, key, nonce, pattern(5), b, pattern(n))
	}
}

func TestOpenWithOtherAssociatedData(t *testing.T) {
	for _, n := range []int{0, 1, 16, 65} {
		for _, size := range []int{1, 15, 16, 17, 33} {
			other := pattern(size)
			b := sealed(t, pattern(32), pattern(12), other, pattern(n))
			eachBit(other, func(int) { checkRefused(t, pattern(32), pattern(12), other, b, api.ErrSeal) })
			for _, wrong := range [][]byte{nil, {}, other[1:], other[:size-1], join(other, []byte{1}), join([]byte{0}, other), join(other, other), b} {
				checkRefused(t, pattern(32), pattern(12), wrong, b, api.ErrSeal)
			}
			checkOpen(t, pattern(32), pattern(12), other, b, pattern(n))
		}
		b := sealed(t, pattern(32), pattern(12), nil, pattern(n))
		checkRefused(t, pattern(32), pattern(12), []byte{0}, b, api.ErrSeal)
		checkRefused(t, pattern(32), pattern(12), make([]byte, 16), b, api.ErrSeal)
	}
}

func TestOpenAfterBytesAreMoved(t *testing.T) {
	// What is padded and concatenated may be the same then: the lengths tell the parts apart.
	for _, size := range []int{1, 16, 17, 32, 48} {
		for _, n := range []int{0, 1, 16, 32, 48} {
			other := pattern(size)
			b := sealed(t, pattern(32), pattern(12), other, pattern(n))
			c, tag := b[:n], b[n:]
			for i := range size {
				checkRefused(t, pattern(32), pattern(12), other[:i], join(other[i:], c, tag), api.ErrSeal)
			}
			for i := 1; i <= n; i++ {
				checkRefused(t, pattern(32), pattern(12), join(other, c[:i]), join(c[i:], tag), api.ErrSeal)
			}
			if !bytes.Equal(other, c) {
				checkRefused(t, pattern(32), pattern(12), c, join(other, tag), api.ErrSeal)
			}
		}
	}
}

func TestOpenAfterZerosArePutBehind(t *testing.T) {
	for _, size := range []int{0, 1, 15, 16, 17} {
		for _, n := range []int{0, 1, 15, 16, 17} {
			b := sealed(t, pattern(32), pattern(12), pattern(size), pattern(n))
			for zeros := 1; zeros <= 33; zeros++ {
				checkRefused(t, pattern(32), pattern(12), join(pattern(size), make([]byte, zeros)), b, api.ErrSeal)
				checkRefused(t, pattern(32), pattern(12), pattern(size), join(b[:n], make([]byte, zeros), b[n:]), api.ErrSeal)
			}
		}
	}
}

func TestOpenAfterZerosAreTakenOff(t *testing.T) {
	for _, size := range []int{1, 15, 16, 17, 32} {
		other := make([]byte, size)
		c := make([]byte, size)
		b := join(c, wantTag(pattern(32), pattern(12), other, c))
		for n := range size {
			checkRefused(t, pattern(32), pattern(12), other[:n], b, api.ErrSeal)
			checkRefused(t, pattern(32), pattern(12), other, b[size-n:], api.ErrSeal)
		}
		checkOpen(t, pattern(32), pattern(12), other, b, mixed(pattern(32), pattern(12), c))
	}
}

func TestOpenChecksTheWholeTag(t *testing.T) {
	// The tag of one box behind the ciphertext of another one.
	one := sealed(t, pattern(32), pattern(12), pattern(5), pattern(20))
	other := sealed(t, pattern(32), pattern(12), pattern(5), ones(20))
	checkRefused(t, pattern(32), pattern(12), pattern(5), join(one[:20], other[20:]), api.ErrSeal)
	checkRefused(t, pattern(32), pattern(12), pattern(5), join(one[:20], make([]byte, 16)), api.ErrSeal)
	checkRefused(t, pattern(32), pattern(12), pattern(5), join(one[20:], one[:20]), api.ErrSeal)
	checkRefused(t, pattern(32), pattern(12), pattern(5), join(one, one[20:]), api.ErrSeal)
}

// P7.3

func TestOpeningWhatWasSealed(t *testing.T) {
	eachKey(func(key, nonce []byte) {
		for _, other := range someParts() {
			for _, text := range someParts() {
				b := sealed(t, key, nonce, other, text)
				checkOpen(t, key, nonce, other, b, text)
				if len(text) > 8 && bytes.Contains(b, text[:8]) {
					t.Errorf("the box of %d bytes shows its text", len(text))
				}
			}
		}
	})
	for n := range 300 {
		checkOpen(t, pattern(32), pattern(12), pattern(n), sealed(t, pattern(32), pattern(12), pattern(n), pattern(n)), pattern(n))
	}
}

func TestSealingWhatWasOpened(t *testing.T) {
	eachKey(func(key, nonce []byte) {
		for _, other := range someParts() {
			for _, c := range someParts() {
				b := join(c, wantTag(key, nonce, other, c))
				text, e := Open(key, nonce, other, b)
				if e != api.OK {
					t.Fatalf("Open of %d bytes = %x, %d", len(b), text, e)
				}
				if again := sealed(t, key, nonce, other, text); !bytes.Equal(again, b) {
					t.Errorf("a box of %d bytes, opened and sealed again, is %x; want %x", len(b), again, b)
				}
			}
		}
	})
}

func TestSealingTwiceReturnsTheSame(t *testing.T) {
	for _, n := range sizes {
		first := sealed(t, pattern(32), pattern(12), pattern(5), pattern(n))
		sealed(t, ones(32), ones(12), ones(5), ones(n))
		if second := sealed(t, pattern(32), pattern(12), pattern(5), pattern(n)); !bytes.Equal(first, second) {
			t.Errorf("%d bytes sealed twice are %x and %x", n, first, second)
		}
	}
}

func TestBoxesInEachOther(t *testing.T) {
	boxes := [][]byte{[]byte("a text")}
	for i := range 20 {
		inner := boxes[i]
		boxes = append(boxes, sealed(t, pattern(32), []byte{11: byte(i)}, inner[:i], inner))
	}
	for i := range 20 {
		inner := boxes[i]
		checkOpen(t, pattern(32), []byte{11: byte(i)}, inner[:i], boxes[i+1], inner)
	}
}

// Memory (DOC.md, 'Rules that hold everywhere')

func TestArgumentsAreLeftAsTheyWere(t *testing.T) {
	for _, k := range []int{0, 31, 32, 33} {
		for _, m := range []int{0, 11, 12, 13} {
			for _, size := range []int{0, 1, 15, 16, 17, 33} {
				for _, n := range []int{0, 1, 15, 16, 17, 33, 64, 65} {
					keys, nonces, others, texts := pattern(64), pattern(64), pattern(100), pattern(200)
					Seal(keys[:k], nonces[:m], others[:size], texts[:n])
					Open(keys[:k], nonces[:m], others[:size], texts[:n])
					if !isPattern(keys, nonces, others, texts) {
						t.Fatalf("a key of %d bytes, a nonce of %d, data of %d, a text of %d or their spare capacity are changed", k, m, size, n)
					}
				}
			}
		}
	}
}

func TestOpenLeavesTheBoxAsItWas(t *testing.T) {
	for _, n := range sizes {
		keys, nonces, others := pattern(64), pattern(64), pattern(100)
		b := sealed(t, pattern(32), pattern(12), pattern(21), pattern(n))
		room := join(b, pattern(100))
		checkOpen(t, keys[:32], nonces[:12], others[:21], room[:len(b)], pattern(n))
		checkRefused(t, keys[:32], nonces[:12], others[:20], room[:len(b)], api.ErrSeal)
		if !bytes.Equal(room, join(b, pattern(100))) || !isPattern(keys, nonces, others) {
			t.Errorf("opening a box of %d bytes changes it, or what else was handed in", len(b))
		}
	}
}

func TestSpareCapacityDoesNotCount(t *testing.T) {
	room := pattern(300)
	for _, n := range []int{0, 1, 15, 16, 17, 64, 65} {
		want := wantBox(pattern(32), pattern(12), pattern(n), pattern(n))
		if got := sealed(t, room[:32], room[:12], room[:n], room[:n]); !bytes.Equal(got, want) {
			t.Errorf("bytes past the length of %d bytes count", n)
		}
		long := join(want, pattern(50))
		checkOpen(t, room[:32], room[:12], room[:n], long[:len(want)], pattern(n))
	}
	empty := sealed(t, pattern(32), pattern(12), nil, nil)
	checkRefused(t, room[:31], room[:12], nil, empty, api.ErrArg)
	checkRefused(t, room[:32], room[:11], nil, empty, api.ErrArg)
	checkRefused(t, room[:32], room[:12], nil, empty[:15], api.ErrShort)
	if got, e := Seal(room[:31], room[:12], nil, nil); len(got) != 0 || e != api.ErrArg {
		t.Errorf("the spare capacity of a key counts: %x, %d", got, e)
	}
}

func TestArgumentsMayShareMemory(t *testing.T) {
	room := pattern(200)
	for n := range 200 {
		checkSeal(t, room[:32], room[20:32], room[:n], room[:n])
		checkSeal(t, room[:32], room[:12], room[n:], room[n/2:])
		checkRefused(t, room[:32], room[20:32], room[:n], room[:max(n, 16)], api.ErrSeal)
	}
	if !isPattern(room) {
		t.Error("arguments that share memory are changed")
	}
	b := sealed(t, pattern(32), pattern(12), nil, pattern(60))
	whole := bytes.Clone(b)
	again := sealed(t, b[:32], b[:12], b, b)
	checkOpen(t, b[:32], b[:12], b, again, whole)
}

func TestWhatWasHandedInMayBeWrittenOver(t *testing.T) {
	for _, n := range sizes {
		key, nonce, other, text := pattern(32), pattern(12), pattern(21), pattern(n)
		b := sealed(t, key, nonce, other, text)
		overwrite(key, nonce, other, text)
		want := wantBox(pattern(32), pattern(12), pattern(21), pattern(n))
		if !bytes.Equal(b, want) {
			t.Errorf("the box of %d bytes changes with what was handed in", n)
		}
		got, _ := Open(pattern(32), pattern(12), pattern(21), b)
		overwrite(b)
		if !isPattern(got) {
			t.Errorf("a text of %d bytes changes with its box", n)
		}
		checkSeal(t, key, nonce, other, text)
		checkSeal(t, pattern(32), pattern(12), pattern(21), pattern(n))
		checkOpen(t, pattern(32), pattern(12), pattern(21), want, pattern(n))
	}
}

func TestResultsAreIndependent(t *testing.T) {
	for _, n := range sizes {
		key, nonce, other, text := pattern(32), pattern(12), pattern(21), pattern(n)
		first, second := sealed(t, key, nonce, other, text), sealed(t, key, nonce, other, text)
		overwrite(first[:cap(first)])
		if !bytes.Equal(second, wantBox(key, nonce, other, text)) {
			t.Errorf("two boxes of %d bytes share memory", n)
		}
		one, _ := Open(key, nonce, other, second)
		two, _ := Open(key, nonce, other, second)
		overwrite(one[:cap(one)])
		if !isPattern(two) {
			t.Errorf("two texts of %d bytes share memory", n)
		}
		if !isPattern(key, nonce, other, text) || !bytes.Equal(second, wantBox(key, nonce, other, text)) {
			t.Errorf("a result for %d bytes shares memory with an argument", n)
		}
		checkSeal(t, key, nonce, other, text)
		checkOpen(t, key, nonce, other, second, text)
	}
}

func TestNoResultWithAnError(t *testing.T) {
	b := sealed(t, pattern(32), pattern(12), nil, pattern(100))
	b[0] ^= 1
	// The text of a box that does not hold must not be seen, not even in spare capacity.
	if got, e := Open(pattern(32), pattern(12), nil, b); len(got) != 0 || cap(got) != 0 || e != api.ErrSeal {
		t.Errorf("Open of a box that does not hold = %x (%x), %d", got, got[:cap(got)], e)
	}
}

// checkSeal fails unless Seal returns what wantBox computes.
func checkSeal(t *testing.T, key, nonce, other, text []byte) {
	t.Helper()
	if got, want := sealed(t, key, nonce, other, text), wantBox(key, nonce, other, text); !bytes.Equal(got, want) {
		t.Errorf("Seal of %d and %d bytes = %x; want %x", len(other), len(text), got, want)
	}
}

// checkOpen fails unless Open returns the text.
func checkOpen(t *testing.T, key, nonce, other, b, text []byte) {
	t.Helper()
	if got, e := Open(key, nonce, other, b); !bytes.Equal(got, text) || e != api.OK {
		t.Errorf("Open of %d and %d bytes = %x, %d; want %x", len(other), len(b), got, e, text)
	}
}

// checkRefused fails unless Open returns the error, and nothing else.
func checkRefused(t *testing.T, key, nonce, other, b []byte, want api.Errno) {
	t.Helper()
	if got, e := Open(key, nonce, other, b); len(got) != 0 || cap(got) != 0 || e != want {
		t.Errorf("key of %d bytes, nonce of %d: Open of %d and %d bytes = %x, %d; want %d", len(key), len(nonce), len(other), len(b), got, e, want)
	}
}

// sealed returns the box of what must be right.
func sealed(t *testing.T, key, nonce, other, text []byte) []byte {
	t.Helper()
	b, e := Seal(key, nonce, other, text)
	if len(b) != len(text)+16 || e != api.OK {
		t.Fatalf("Seal of %d and %d bytes has %d bytes, %d", len(other), len(text), len(b), e)
	}
	return b
}

// wantBox returns a box as the chapter defines it.
func wantBox(key, nonce, other, text []byte) []byte {
	c := mixed(key, nonce, text)
	return join(c, wantTag(key, nonce, other, c))
}

// wantTag returns the tag of a ciphertext, over all parts in one piece.
func wantTag(key, nonce, other, c []byte) []byte {
	all := bytes.Clone(other)
	for len(all)%16 != 0 {
		all = append(all, 0)
	}
	all = append(all, c...)
	for len(all)%16 != 0 {
		all = append(all, 0)
	}
	all = binary.LittleEndian.AppendUint64(all, uint64(len(other)))
	all = binary.LittleEndian.AppendUint64(all, uint64(len(c)))
	block, _ := cipher.Block(key, nonce, 0)
	tag, _ := onetime.Tag(block[:32], all)
	return tag
}

// mixed returns b mixed from the counter 1 on.
func mixed(key, nonce, b []byte) []byte {
	out, _ := cipher.Mix(key, nonce, 1, b)
	return out
}

// someParts returns texts that may also be associated data: of all lengths in sizes, and of few and of many different bytes.
func someParts() [][]byte {
	parts := [][]byte{nil}
	for _, n := range sizes {
		parts = append(parts, pattern(n))
	}
	return append(parts, make([]byte, 16), make([]byte, 33), ones(48), stream("a part", 300))
}

// eachKey calls check with keys and nonces that fit: those at the ends, and some like any other.
func eachKey(check func(key, nonce []byte)) {
	for _, key := range [][]byte{make([]byte, 32), ones(32), pattern(32), stream("key", 32)} {
		for _, nonce := range [][]byte{make([]byte, 12), ones(12), pattern(12), stream("nonce", 12)} {
			check(key, nonce)
		}
	}
}

// eachWrong calls check with every pair of a key and a nonce of which one or both have a wrong length.
func eachWrong(check func(key, nonce []byte)) {
	keys := [][]byte{nil, {}, pattern(1), pattern(12), pattern(16), pattern(31), pattern(32), pattern(33), pattern(64)}
	nonces := [][]byte{nil, {}, pattern(1), pattern(8), pattern(11), pattern(12), pattern(13), pattern(24), pattern(32)}
	for _, key := range keys {
		for _, nonce := range nonces {
			if len(key) != 32 || len(nonce) != 12 {
				check(key, nonce)
			}
		}
	}
}

// eachBit calls check while one bit of b is turned, for each of them.
func eachBit(b []byte, check func(bit int)) {
	for bit := range 8 * len(b) {
		b[bit/8] ^= 1 << (bit % 8)
		check(bit)
		b[bit/8] ^= 1 << (bit % 8)
	}
}

// join returns the parts, one behind the other, in memory of their own.
func join(parts ...[]byte) []byte { return bytes.Join(parts, nil) }

// overwrite changes every byte of the parts.
func overwrite(parts ...[]byte) {
	for _, b := range parts {
		for i := range b {
			b[i] ^= 0xee
		}
	}
}

// isPattern reports whether each of the parts is as pattern made it.
func isPattern(parts ...[]byte) bool {
	for _, b := range parts {
		if !bytes.Equal(b, pattern(len(b))) {
			return false
		}
	}
	return true
}

// ones returns n bytes ff.
func ones(n int) []byte { return bytes.Repeat([]byte{0xff}, n) }

// stream returns n bytes that are made of a name and have no pattern.
func stream(name string, n int) []byte {
	b := []byte{}
	for sum := sha256.Sum256([]byte(name)); len(b) < n; sum = sha256.Sum256(sum[:]) {
		b = append(b, sum[:]...)
	}
	return b[:n:n]
}

// pattern returns n bytes that do not repeat with the blocks.
func pattern(n int) []byte {
	b := make([]byte, n)
	for i := range b {
		b[i] = byte(i%251 + 1)
	}
	return b
}

// unhex returns the bytes that are written as hexadecimal digits.
func unhex(s string) []byte {
	b, err := hex.DecodeString(s)
	if err != nil {
		panic(err)
	}
	return b
}
