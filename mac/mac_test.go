package mac

import (
	"bytes"
	"crypto/hmac"
	"crypto/sha256"
	"encoding/hex"
	"strings"
	"testing"

	"hypogeum/digest"
)

const fox = "The quick brown fox jumps over the lazy dog"

// keySizes are the lengths of keys around which their block is made otherwise, and lengths far from them.
var keySizes = []int{0, 1, 3, 16, 31, 32, 33, 62, 63, 64, 65, 66, 127, 128, 129, 200, 1000, 5000}

// textSizes are the lengths of messages around which the blocks or the padding of a sum change.
var textSizes = []int{0, 1, 31, 32, 54, 55, 56, 57, 63, 64, 65, 119, 120, 127, 128, 129, 500}

// vectors are the examples of the chapter, of RFC 4231 and of others who published some.
// Test case 5 of RFC 4231 gives only the first 16 bytes of its tag.
var vectors = []struct{ name, key, text, want string }{
	{"chapter", "key", fox, "f7bc83f430538424b13298e6aa6fb143ef4d59a14946175997479dbc2d1a3cd8"},
	{"nothing", "", "", "b613679a0814d9ec772f95d778c35fc5ff1697c493715653c6c712144292c5ad"},
	{"RFC 4231, 1", strings.Repeat("\x0b", 20), "Hi There",
		"b0344c61d8db38535ca8afceaf0bf12b881dc200c9833da726e9376c2e32cff7"},
	{"RFC 4231, 2", "Jefe", "what do ya want for nothing?",
		"5bdcc146bf60754e6a042426089575c75a003f089d2739839dec58b964ec3843"},
	{"RFC 4231, 3", strings.Repeat("\xaa", 20), strings.Repeat("\xdd", 50),
		"773ea91e36800e46854db8ebd09181a72959098b3ef8c122d9635514ced565fe"},
	{"RFC 4231, 4", "\x01\x02\x03\x04\x05\x06\x07\x08\x09\x0a\x0b\x0c\x0d\x0e\x0f\x10\x11\x12\x13\x14\x15\x16\x17\x18\x19",
		strings.Repeat("\xcd", 50), "82558a389a443c0ea4cc819899f2083a85f0faa3e578f8077a2e3ff46729665b"},
	{"RFC 4231, 5", strings.Repeat("\x0c", 20), "Test With Truncation", "a3b6167473100ee06e0c796c2955552b"},
	{"RFC 4231, 6", strings.Repeat("\xaa", 131), "Test Using Larger Than Block-Size Key - Hash Key First",
		"60e431591ee0b67f0d8a26aacbf5b77f8e0bc6213728c5140546040f0ee37f54"},
	{"RFC 4231, 7", strings.Repeat("\xaa", 131),
		"This is a test using a larger than block-size key and a larger than block-size data. The key needs to be hashed before being used by the HMAC algorithm.",
		"9b09ffa71b942fcb27635fbcd5b0e944bfdc63644f0713938a7f51535c3a35e2"},
}

// P3.1

func TestTagVectors(t *testing.T) {
	for _, v := range vectors {
		got := Tag([]byte(v.key), []byte(v.text))
		if !strings.HasPrefix(hex.EncodeToString(got[:]), v.want) {
			t.Errorf("%s: Tag = %x; want %s", v.name, got, v.want)
		}
	}
}

func TestTagEveryKeyAndText(t *testing.T) {
	all := pattern(500)
	for n := range 150 {
		for _, m := range textSizes {
			if got := Tag(all[:n], all[:m]); got != want(all[:n], all[:m]) {
				t.Errorf("key of %d bytes, message of %d: %x", n, m, got)
			}
		}
	}
	for _, n := range keySizes {
		for m := range 200 {
			if got := Tag(pattern(n), all[:m]); got != want(pattern(n), all[:m]) {
				t.Errorf("key of %d bytes, message of %d: %x", n, m, got)
			}
		}
	}
}

func TestTagManyMessages(t *testing.T) {
	key, text := digest.Sum{}, digest.Sum{}
	for i := range 500 {
		next := Tag(key[:], text[:])
		if next != want(key[:], text[:]) {
			t.Fatalf("message %d: Tag of %x under %x = %x", i, text, key, next)
		}
		key, text = text, next
	}
}

func TestTagNoKey(t *testing.T) {
	for _, m := range textSizes {
		text := pattern(m)
		for _, key := range [][]byte{nil, {}, pattern(9)[:0]} {
			if got := Tag(key, text); got != want(nil, text) {
				t.Errorf("empty key, message of %d bytes: %x", m, got)
			}
		}
	}
}

func TestTagNoBytes(t *testing.T) {
	for _, n := range keySizes {
		key := pattern(n)
		empty := want(key)
		if Tag(key) != empty {
			t.Errorf("key of %d bytes, no parts: %x", n, Tag(key))
		}
		for _, parts := range [][][]byte{nil, {}, {nil}, {{}}, {nil, nil}, {nil, {}, nil}, {pattern(9)[:0]}} {
			if got := Tag(key, parts...); got != empty {
				t.Errorf("key of %d bytes, %d parts without bytes: %x", n, len(parts), got)
			}
		}
	}
}

func TestTagPartsCutAnywhere(t *testing.T) {
	for _, n := range []int{0, 20, 64, 65} {
		key := pattern(n)
		for _, m := range textSizes {
			all := pattern(m)
			whole := want(key, all)
			for i := range m + 1 {
				j := i + (m-i)/2
				if got := Tag(key, all[:i], all[i:]); got != whole {
					t.Errorf("%d bytes cut at %d: %x; want %x", m, i, got, whole)
				}
				if got := Tag(key, nil, all[:i], []byte{}, all[i:j], nil, all[j:], nil); got != whole {
					t.Errorf("%d bytes cut at %d and %d, with empty parts: %x; want %x", m, i, j, got, whole)
				}
			}
		}
	}
}

func TestTagManyParts(t *testing.T) {
	key, all := pattern(40), pattern(1000)
	for size := 1; size <= 200; size++ {
		if got := Tag(key, pieces(all, size)...); got != want(key, all) {
			t.Errorf("parts of %d bytes: %x", size, got)
		}
	}
}

func TestTagDependsOnKeyAndOrder(t *testing.T) {
	a, b := []byte("left"), []byte("right")
	if Tag(a, a, b) == Tag(a, b, a) {
		t.Error("parts are not taken in their order")
	}
	if Tag(a, b) == Tag(b, a) || Tag(a, b) == Tag(nil, a, b) {
		t.Error("the key counts as a part, or a part as the key")
	}
}

func TestTagIgnoresSpareCapacity(t *testing.T) {
	for _, n := range []int{0, 5, 63, 64, 65} {
		room := pattern(300)
		if Tag(room[:n], room[100:103], room[200:264]) != want(pattern(n), room[100:103], room[200:264]) {
			t.Errorf("bytes past the length of a key of %d bytes or of a part count", n)
		}
	}
}

// P3.2

func TestKeyTagVectors(t *testing.T) {
	for _, v := range vectors {
		got := New([]byte(v.key)).Tag([]byte(v.text))
		if !strings.HasPrefix(hex.EncodeToString(got[:]), v.want) {
			t.Errorf("%s: Key.Tag = %x; want %s", v.name, got, v.want)
		}
	}
}

func TestKeyIsUsedAgainInAnyOrder(t *testing.T) {
	for _, n := range keySizes {
		key := pattern(n)
		k := New(key)
		if k == nil {
			t.Fatalf("New of %d bytes is nil", n)
		}
		for turn := range 3 {
			for i := range textSizes {
				text := pattern(textSizes[(i*(2*turn+1)+turn)%len(textSizes)])
				tag := want(key, text)
				if k.Tag(text) != tag || k.Tag(text[:len(text)/2], nil, text[len(text)/2:]) != tag {
					t.Errorf("key of %d bytes used again for %d bytes", n, len(text))
				}
				if !k.Holds(tag[:], text) || k.Holds(tag[:], text, []byte{0}) {
					t.Errorf("key of %d bytes used again to verify %d bytes", n, len(text))
				}
				many := k.Many([][]byte{text, nil, text})
				if len(many) != 3 || many[0] != tag || many[1] != want(key) || many[2] != tag {
					t.Errorf("key of %d bytes used again for many messages", n)
				}
				if k.Tag() != want(key) {
					t.Errorf("key of %d bytes used again for no parts", n)
				}
			}
		}
	}
}

func TestKeysAreIndependent(t *testing.T) {
	a, b := New([]byte("one")), New([]byte("other"))
	for i := range 100 {
		text := pattern(i)
		if a.Tag(text) != want([]byte("one"), text) || b.Tag(text) != want([]byte("other"), text) {
			t.Fatalf("two keys, used in turn for %d bytes, are not independent", i)
		}
	}
}

func TestKeyCopiedByValue(t *testing.T) {
	k := New([]byte("key"))
	twin := *k
	*k = *New([]byte("another key"))
	if twin.Tag([]byte(fox)) != want([]byte("key"), []byte(fox)) || k.Tag([]byte(fox)) != want([]byte("another key"), []byte(fox)) {
		t.Error("a key that was copied by assignment is not independent")
	}
}

func TestMany(t *testing.T) {
	for _, n := range keySizes {
		key := pattern(n)
		k := New(key)
		for _, l := range [][][]byte{nil, {}, make([][]byte, 0, 5)} {
			if got := k.Many(l); len(got) != 0 {
				t.Errorf("Many of no elements has %d", len(got))
			}
		}
		var l [][]byte
		for i := range 300 {
			l = append(l, pattern(i*7%200))
		}
		l[5], l[6], l[299] = nil, []byte{}, nil
		got := k.Many(l)
		if len(got) != len(l) {
			t.Fatalf("Many of %d elements has %d", len(l), len(got))
		}
		for i := range l {
			if got[i] != want(key, l[i]) {
				t.Errorf("key of %d bytes: element %d of Many = %x", n, i, got[i])
			}
		}
	}
}

func TestManyOfOneAndOfEqualElements(t *testing.T) {
	k, tag := New([]byte("key")), want([]byte("key"), []byte(fox))
	if got := k.Many([][]byte{[]byte(fox)}); len(got) != 1 || got[0] != tag {
		t.Errorf("Many of one element = %x", got)
	}
	text := []byte(fox)
	got := k.Many([][]byte{text, text, text})
	if len(got) != 3 || got[0] != tag || got[1] != tag || got[2] != tag {
		t.Errorf("Many of equal elements = %x", got)
	}
}

func TestNilKey(t *testing.T) {
	var k *Key
	for range 2 {
		for _, m := range textSizes {
			text := pattern(m)
			tag := want(nil, text)
			if k.Tag(text) != tag || k.Tag(text[:m/3], text[m/3:]) != tag || k.Tag(text) != New(nil).Tag(text) {
				t.Errorf("nil Key: tag of %d bytes = %x", m, k.Tag(text))
			}
			if !k.Holds(tag[:], text) || k.Holds(tag[:31], text) || k.Holds(nil, text) || k.Holds(tag[:], text, []byte{0}) {
				t.Errorf("nil Key: Holds for %d bytes", m)
			}
		}
	}
	if k.Tag() != want(nil) || k.Holds(nil) || len(k.Many(nil)) != 0 {
		t.Error("nil Key of nothing")
	}
	if got := k.Many([][]byte{nil, []byte("x")}); len(got) != 2 || got[0] != want(nil) || got[1] != want(nil, []byte("x")) {
		t.Errorf("nil Key: Many = %x", got)
	}
}

// P3.3

func TestLongKeyIsItsSum(t *testing.T) {
	for _, n := range []int{65, 66, 96, 127, 128, 129, 1000, 100000} {
		key := pattern(n)
		sum := digest.Of(key)
		for _, m := range textSizes {
			text := pattern(m)
			tag := Tag(key, text)
			if tag != Tag(sum[:], text) || tag != New(key).Tag(text) || tag != New(sum[:]).Tag(text) {
				t.Errorf("a key of %d bytes is not equivalent to its sum", n)
			}
			if !New(key).Holds(tag[:], text) || !New(sum[:]).Holds(tag[:], text) {
				t.Errorf("a key of %d bytes does not verify what its sum verifies", n)
			}
			if tag == Tag(key[:64], text) {
				t.Errorf("a key of %d bytes is cut to 64", n)
			}
		}
	}
}

func TestShortKeyIsNotItsSum(t *testing.T) {
	for n := range 65 {
		key := pattern(n)
		sum := digest.Of(key)
		if Tag(key, []byte(fox)) == Tag(sum[:], []byte(fox)) || New(key).Tag() == New(sum[:]).Tag() {
			t.Errorf("a key of %d bytes is taken by its sum", n)
		}
	}
}

func TestZeroBytesBehindShortKeys(t *testing.T) {
	text := []byte(fox)
	for n := range 65 {
		key := pattern(n)
		tag := Tag(key, text)
		for zeros := range 64 - n + 1 {
			longer := append(pattern(n), make([]byte, zeros)...)
			if Tag(longer, text) != tag || New(longer).Tag(text) != tag {
				t.Errorf("%d zero bytes behind a key of %d change the tag", zeros, n)
			}
		}
		over := append(pattern(n), make([]byte, 65-n)...)
		if Tag(over, text) == tag || New(over).Tag(text) == tag {
			t.Errorf("zero bytes behind a key of %d, up to 65 bytes, change nothing", n)
		}
		if n > 1 && Tag(append([]byte{0}, pattern(n-1)...), text) == Tag(pattern(n-1), text) {
			t.Errorf("a zero byte before a key of %d changes nothing", n-1)
		}
	}
	long := pattern(70)
	if Tag(append(pattern(70), 0), text) == Tag(long, text) {
		t.Error("a zero byte behind a long key changes nothing")
	}
}

func TestEveryByteOfAKeyCounts(t *testing.T) {
	for _, n := range []int{1, 32, 63, 64, 65, 100} {
		tag := Tag(pattern(n), []byte(fox))
		for i := range n {
			other := pattern(n)
			other[i] ^= 0x80
			if Tag(other, []byte(fox)) == tag {
				t.Errorf("byte %d of a key of %d does not count", i, n)
			}
		}
	}
}

// P3.4

func TestHoldsForTheTag(t *testing.T) {
	for _, n := range keySizes {
		key := pattern(n)
		k := New(key)
		for _, m := range textSizes {
			text := pattern(m)
			tag := want(key, text)
			if !k.Holds(tag[:], text) {
				t.Errorf("key of %d bytes: Holds is false for the tag of %d bytes", n, m)
			}
			for i := range m + 1 {
				if !k.Holds(tag[:], text[:i], nil, text[i:]) {
					t.Errorf("key of %d bytes: Holds is false for %d bytes that are cut at %d", n, m, i)
				}
			}
		}
		empty := want(key)
		if !k.Holds(empty[:]) || !k.Holds(empty[:], nil) || !k.Holds(empty[:], nil, []byte{}) {
			t.Errorf("key of %d bytes: Holds is false for the tag of no bytes", n)
		}
	}
}

func TestHoldsForNoOtherBytes(t *testing.T) {
	k, text := New([]byte("key")), []byte(fox)
	tag := want([]byte("key"), text)
	for i := range tag {
		for diff := 1; diff < 256; diff++ {
			other := tag
			other[i] ^= byte(diff)
			if k.Holds(other[:], text) {
				t.Fatalf("Holds is true though byte %d of the tag is %02x, not %02x", i, other[i], tag[i])
			}
		}
	}
	for i := range tag {
		for j := range i {
			other := tag
			other[i] ^= 0x11
			other[j] ^= 0x11
			if k.Holds(other[:], text) {
				t.Errorf("Holds is true though bytes %d and %d of the tag are others", j, i)
			}
		}
	}
	zeros, ones := digest.Sum{}, digest.Sum(bytes.Repeat([]byte{0xff}, 32))
	if k.Holds(zeros[:], text) || k.Holds(ones[:], text) {
		t.Error("Holds is true for 32 bytes that are no tag")
	}
}

func TestHoldsForNoOtherLength(t *testing.T) {
	k, text := New([]byte("key")), []byte(fox)
	tag := want([]byte("key"), text)
	if k.Holds(nil, text) || k.Holds([]byte{}, text) || k.Holds(nil) || k.Holds([]byte{}, nil) {
		t.Error("Holds is true for no tag")
	}
	for n := range tag {
		if k.Holds(tag[:n], text) || k.Holds(tag[32-n:], text) {
			t.Errorf("Holds is true for %d bytes of the tag", n)
		}
	}
	for _, more := range []int{1, 2, 31, 32, 64, 1000} {
		for _, b := range []byte{0, 1, tag[31]} {
			if k.Holds(append(tag[:len(tag):len(tag)], bytes.Repeat([]byte{b}, more)...), text) {
				t.Errorf("Holds is true for a tag followed by %d bytes", more)
			}
		}
	}
	if k.Holds(append([]byte{0}, tag[:]...), text) || k.Holds(append(tag[:len(tag):len(tag)], tag[:]...), text) {
		t.Error("Holds is true for a tag that is longer")
	}
}

func TestHoldsForNoOtherMessageOrKey(t *testing.T) {
	k, text := New([]byte("key")), []byte(fox)
	tag := want([]byte("key"), text)
	for i := range text {
		other := []byte(fox)
		other[i] ^= 1
		if k.Holds(tag[:], other) || k.Holds(tag[:], text[:i]) || k.Holds(tag[:], text[i+1:]) {
			t.Errorf("Holds is true for a message that differs at %d", i)
		}
	}
	if k.Holds(tag[:]) || k.Holds(tag[:], text, text) || k.Holds(tag[:], text[9:], text[:9]) || k.Holds(tag[:], text, []byte{0}) {
		t.Error("Holds is true for another message")
	}
	if New([]byte("Key")).Holds(tag[:], text) || New(nil).Holds(tag[:], text) || (*Key)(nil).Holds(tag[:], text) {
		t.Error("Holds is true under another key")
	}
	inner := digest.Of(bytes.Repeat([]byte{0x36}, 64), text)
	if plain := digest.Of(text); New(nil).Holds(plain[:], text) || New(nil).Holds(inner[:], text) {
		t.Error("Holds is true for a sum that is no tag")
	}
}

func TestHoldsIgnoresSpareCapacity(t *testing.T) {
	k, text := New([]byte("key")), []byte(fox)
	tag := want([]byte("key"), text)
	room := append(tag[:len(tag):len(tag)], pattern(40)...)
	if !k.Holds(room[:32], text) || k.Holds(room[:31], text) || k.Holds(room[:33], text) {
		t.Error("bytes past the length of a tag count")
	}
}

// Memory (DOC.md, 'Rules that hold everywhere')

func TestArgumentsAreLeftAsTheyWere(t *testing.T) {
	for _, n := range []int{0, 1, 31, 32, 33, 63, 64, 65, 130} {
		room, texts, tags := pattern(256), pattern(256), pattern(256)
		Tag(room[:n], texts[:n], texts[n:n+9], nil)
		k := New(room[:n])
		k.Tag(texts[:n], texts[n:])
		k.Holds(tags[:n], texts[:n])
		k.Holds(tags[:32], texts[:n], texts[:7])
		k.Many([][]byte{texts[:n], nil, texts[:2*n/3]})
		for _, b := range [][]byte{room, texts, tags} {
			if !bytes.Equal(b, pattern(256)) {
				t.Errorf("an argument of %d bytes or its spare capacity is changed", n)
			}
		}
	}
}

func TestListsOfPartsAreLeftAsTheyWere(t *testing.T) {
	k := New([]byte("key"))
	calls := map[string]func(parts [][]byte){
		"Tag":      func(parts [][]byte) { Tag([]byte("key"), parts...) },
		"Key.Tag":  func(parts [][]byte) { k.Tag(parts...) },
		"Holds":    func(parts [][]byte) { k.Holds(nil, parts...) },
		"Many":     func(parts [][]byte) { k.Many(parts) },
		"nil Tag":  func(parts [][]byte) { (*Key)(nil).Tag(parts...) },
		"nil Many": func(parts [][]byte) { (*Key)(nil).Many(parts) },
	}
	for name, call := range calls {
		parts := make([][]byte, 3, 5)
		parts[0], parts[1] = pattern(3), pattern(64)
		call(parts)
		room := parts[:5]
		if !bytes.Equal(room[0], pattern(3)) || !bytes.Equal(room[1], pattern(64)) || room[2] != nil || room[3] != nil || room[4] != nil {
			t.Errorf("%s changes its list", name)
		}
	}
}

func TestWhatWasHandedInMayBeWrittenOver(t *testing.T) {
	for _, n := range keySizes {
		key, text := pattern(n), pattern(100)
		k := New(key)
		first := k.Tag(text)
		many := k.Many([][]byte{text, text[:50]})
		tag := bytes.Clone(first[:])
		if !k.Holds(tag, text) {
			t.Errorf("key of %d bytes: Holds is false", n)
		}
		overwrite(key)
		overwrite(text)
		overwrite(tag)
		if first != want(pattern(n), pattern(100)) || many[0] != first || many[1] != want(pattern(n), pattern(50)) {
			t.Errorf("key of %d bytes: a tag changes with what was handed in", n)
		}
		if k.Tag(pattern(100)) != first || !k.Holds(first[:], pattern(100)) || k.Many([][]byte{pattern(100)})[0] != first {
			t.Errorf("a key of %d bytes keeps hold of what was handed in", n)
		}
		if k.Tag(text) != want(pattern(n), text) {
			t.Errorf("key of %d bytes: a message that is filled anew is tagged as before", n)
		}
	}
}

func TestResultsAreIndependent(t *testing.T) {
	k, text := New([]byte("key")), []byte(fox)
	tag := want([]byte("key"), text)
	one := k.Tag(text)
	overwrite(one[:])
	first, second := k.Many([][]byte{text, text}), k.Many([][]byte{text, text})
	first[0] = digest.Sum{}
	clear(first[:cap(first)])
	if second[0] != tag || second[1] != tag {
		t.Error("two results of Many share memory")
	}
	if k.Tag(text) != tag || Tag([]byte("key"), text) != tag || k.Many([][]byte{text})[0] != tag {
		t.Error("writing to a result changes a later one")
	}
	two := k.Many([][]byte{text, text})
	overwrite(two[0][:])
	if two[1] != tag {
		t.Error("two tags of one result share memory")
	}
}

// want returns the tag of the parts as the library of the language computes it.
func want(key []byte, parts ...[]byte) digest.Sum {
	h := hmac.New(sha256.New, key)
	for _, part := range parts {
		h.Write(part)
	}
	return digest.Sum(h.Sum(nil))
}

// pieces cuts b into parts of size bytes; the last one may be shorter.
func pieces(b []byte, size int) [][]byte {
	var parts [][]byte
	for len(b) > size {
		parts = append(parts, b[:size])
		b = b[size:]
	}
	return append(parts, b)
}

// overwrite changes every byte of b.
func overwrite(b []byte) {
	for i := range b {
		b[i] ^= 0xee
	}
}

// pattern returns n bytes that do not repeat with the blocks.
func pattern(n int) []byte {
	b := make([]byte, n)
	for i := range b {
		b[i] = byte(i%251 + 1)
	}
	return b
}
