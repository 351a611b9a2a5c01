package cipher

import (
	"bytes"
	"encoding/binary"
	"encoding/hex"
	"iter"
	"math"
	"math/bits"
	"strings"
	"testing"

	"hypogeum/api"
)

const (
	zeroKey    = "0000000000000000000000000000000000000000000000000000000000000000"
	oneKey     = "0000000000000000000000000000000000000000000000000000000000000001"
	risingKey  = "000102030405060708090a0b0c0d0e0f101112131415161718191a1b1c1d1e1f"
	zeroNonce  = "000000000000000000000000"
	twoNonce   = "000000000000000000000002"
	blockNonce = "000000090000004a00000000"
)

// counters are both ends of the counters, the sign bit of a word, and counters of which one byte alone is set.
var counters = []uint32{0, 1, 2, 255, 256, 1 << 16, 1 << 24, 1<<31 - 1, 1 << 31, 1<<31 + 1, 0x01020304, math.MaxUint32 - 1, math.MaxUint32}

// sizes are the numbers of bytes around which the number of blocks changes, and numbers far from them.
var sizes = []int{0, 1, 2, 31, 32, 63, 64, 65, 114, 127, 128, 129, 191, 192, 193, 1000, 8192}

// blockVectors are the example of the chapter (RFC 8439, 2.3.2), those of RFC 8439, A.1, and blocks of other counters as OpenSSL computes them.
var blockVectors = []struct {
	name, key, nonce string
	n                uint32
	want             string
}{
	{"chapter", risingKey, blockNonce, 1,
		"10f1e7e4d13b5915500fdd1fa32071c4c7d1f4c733c068030422aa9ac3d46c4ed2826446079faa0914c2d705d98b02a2b5129cd1de164eb9cbd083e8a2503c4e"},
	{"A.1, 1", zeroKey, zeroNonce, 0,
		"76b8e0ada0f13d90405d6ae55386bd28bdd219b8a08ded1aa836efcc8b770dc7da41597c5157488d7724e03fb8d84a376a43b8f41518a11cc387b669b2ee6586"},
	{"A.1, 2", zeroKey, zeroNonce, 1,
		"9f07e7be5551387a98ba977c732d080dcb0f29a048e3656912c6533e32ee7aed29b721769ce64e43d57133b074d839d531ed1f28510afb45ace10a1f4b794d6f"},
	{"A.1, 3", oneKey, zeroNonce, 1,
		"3aeb5224ecf849929b9d828db1ced4dd832025e8018b8160b82284f3c949aa5a8eca00bbb4a73bdad192b5c42f73f2fd4e273644c8b36125a64addeb006c13a0"},
	{"A.1, 4", "00ff000000000000000000000000000000000000000000000000000000000000", zeroNonce, 2,
		"72d54dfbf12ec44b362692df94137f328fea8da73990265ec1bbbea1ae9af0ca13b25aa26cb4a648cb9b9d1be65b2c0924a66c54d545ec1b7374f4872e99f096"},
	{"A.1, 5", zeroKey, twoNonce, 0,
		"c2c64d378cd536374ae204b9ef933fcd1a8b2288b3dfa49672ab765b54ee27c78a970e0e955c14f3a88e741b97c286f75f8fc299e8148362fa198a39531bed6d"},
	{"counter 0", risingKey, blockNonce, 0,
		"8adc91fd9ff4f0f51b0fad50ff15d637e40efda206cc52c783a74200503c1582cd9833367d0a54d57d3c9e998f490ee69ca34c1ff9e939a75584c52d690a35d4"},
	{"counter 2^31", risingKey, blockNonce, 1 << 31,
		"4c76f034662332641d91b481c074c7454e969ecae52c92c9df756ba56a7cd932d4750c0d1e0609fc44ee6681cd75bdad5a82f37b3586029e9a89a64726396f47"},
	{"counter 2^32 - 2", risingKey, blockNonce, 1<<32 - 2,
		"bed7e9fb1985cf676d5b3eee7cdd741282a8e6703109423c0c15c551a64d374f8a897645cf2688709dc061487d111682e4be93a05f18df4a1d292f8ca8b5f460"},
	{"counter 2^32 - 1", risingKey, blockNonce, 1<<32 - 1,
		"ff2941b8d740f6cbb50936bf997ebd5218cb108dc53f41c64841d0218167430ca03b770ca74ccb642a28194d1dedd2ed13151e25ec5d7faeb6d060bfb7e6b146"},
}

// mixVectors are those of RFC 8439, 2.4.2 and A.2.
var mixVectors = []struct {
	name, key, nonce string
	from             uint32
	text, want       string
}{
	{"2.4.2", risingKey, "000000000000004a00000000", 1,
		"Ladies and Gentlemen of the class of '99: If I could offer you only one tip for the future, sunscreen would be it.",
		"6e2e359a2568f98041ba0728dd0d6981e97e7aec1d4360c20a27afccfd9fae0bf91b65c5524733ab8f593dabcd62b3571639d624e65152ab8f530c359f0861d8" +
			"07ca0dbf500d6a6156a38e088a22b65e52bc514d16ccf806818ce91ab77937365af90bbf74a35be6b40b8eedf2785e42874d"},
	{"A.2, 1", zeroKey, zeroNonce, 0, strings.Repeat("\x00", 64),
		"76b8e0ada0f13d90405d6ae55386bd28bdd219b8a08ded1aa836efcc8b770dc7da41597c5157488d7724e03fb8d84a376a43b8f41518a11cc387b669b2ee6586"},
	{"A.2, 2", oneKey, twoNonce, 1,
		"Any submission to the IETF intended by the Contributor for publication as all or part of an IETF Internet-Draft or RFC and any " +
			"statement made within the context of an IETF activity is considered an \"IETF Contribution\". Such statements include oral " +
			"statements in IETF sessions, as well as written and electronic communications made at any time or place, which are addressed to",
		"a3fbf07df3fa2fde4f376ca23e82737041605d9f4f4f57bd8cff2c1d4b7955ec2a97948bd3722915c8f3d337f7d370050e9e96d647b7c39f56e031ca5eb6250d" +
			"4042e02785ececfa4b4bb5e8ead0440e20b6e8db09d881a7c6132f420e52795042bdfa7773d8a9051447b3291ce1411c680465552aa6c405b7764d5e87bea85a" +
			"d00f8449ed8f72d0d662ab052691ca66424bc86d2df80ea41f43abf937d3259dc4b2d0dfb48a6c9139ddd7f76966e928e635553ba76c5c879d7b35d49eb2e62b" +
			"0871cdac638939e25e8a1e0ef9d5280fa8ca328b351c3c765989cbcf3daa8b6ccc3aaf9f3979c92b3720fc88dc95ed84a1be059c6499b9fda236e7e818b04b0b" +
			"c39c1e876b193bfe5569753f88128cc08aaa9b63d1a16f80ef2554d7189c411f5869ca52c5b83fa36ff216b9c1d30062bebcfd2dc5bce0911934fda79a86f6e6" +
			"98ced759c3ff9b6477338f3da4f9cd8514ea9982ccafb341b2384dd902f3d1ab7ac61dd29c6f21ba5b862f3730e37cfdc4fd806c22f221"},
	{"A.2, 3", "1c9240a5eb55d38af333888604f6b5f0473917c1402b80099dca5cbc207075c0", twoNonce, 42,
		"'Twas brillig, and the slithy toves\nDid gyre and gimble in the wabe:\nAll mimsy were the borogoves,\nAnd the mome raths outgrabe.",
		"62e6347f95ed87a45ffae7426f27a1df5fb69110044c0d73118effa95b01e5cf166d3df2d721caf9b21e5fb14c616871fd84c54f9d65b283196c7fe4f60553eb" +
			"f39c6402c42234e32a356b3e764312a61a5532055716ead6962568f87d3f3f7704c6a8d1bcd1bf4d50d6154b6da731b187b58dfd728afa36757a797ac188d1"},
}

// P5.1: Block

func TestQuarterRoundVector(t *testing.T) {
	a, b, c, d := quarterRound(0x11111111, 0x01020304, 0x9b8d6f43, 0x01234567) // RFC 8439, 2.1.1
	if a != 0xea2a92f4 || b != 0xcb1cf8ce || c != 0x4581472e || d != 0x5881c4bb {
		t.Errorf("quarterRound = %08x %08x %08x %08x", a, b, c, d)
	}
}

func TestBlockVectors(t *testing.T) {
	for _, v := range blockVectors {
		got, e := Block(unhex(v.key), unhex(v.nonce), v.n)
		if hex.EncodeToString(got[:]) != v.want || e != api.OK {
			t.Errorf("%s: Block = %x, %d; want %s", v.name, got, e, v.want)
		}
	}
}

func TestBlockEveryBitCounts(t *testing.T) {
	key, nonce := unhex(risingKey), unhex(blockNonce)
	seen := map[[64]byte]string{}
	visit := func(name string, n uint32) {
		got, e := Block(key, nonce, n)
		if got != want(key, nonce, n) || e != api.OK {
			t.Errorf("%s: Block = %x, %d", name, got, e)
		}
		if other, found := seen[got]; found {
			t.Errorf("%s and %s have the same block", name, other)
		}
		seen[got] = name
	}
	visit("all as it is", 1)
	for i := range 8 * len(key) {
		key[i/8] ^= 1 << (i % 8)
		visit("bit "+hex.EncodeToString([]byte{byte(i)})+" of the key", 1)
		key[i/8] ^= 1 << (i % 8)
	}
	for i := range 8 * len(nonce) {
		nonce[i/8] ^= 1 << (i % 8)
		visit("bit "+hex.EncodeToString([]byte{byte(i)})+" of the nonce", 1)
		nonce[i/8] ^= 1 << (i % 8)
	}
	for i := range 32 {
		visit("bit "+hex.EncodeToString([]byte{byte(i)})+" of the counter", 1^1<<i)
	}
}

func TestBlockManyKeysAndCounters(t *testing.T) {
	key, nonce := pattern(32), pattern(12)
	for i := range 300 {
		for _, n := range counters {
			if got, e := Block(key, nonce, n+uint32(i)); got != want(key, nonce, n+uint32(i)) || e != api.OK {
				t.Fatalf("key %x, nonce %x, counter %d: Block = %x, %d", key, nonce, n+uint32(i), got, e)
			}
		}
		next := want(key, nonce, uint32(i))
		key, nonce = next[:32], next[32:44]
	}
}

func TestBlockOfWrongLengths(t *testing.T) {
	eachWrong(func(key, nonce []byte) {
		for _, n := range counters {
			if got, e := Block(key, nonce, n); got != [64]byte{} || e != api.ErrArg {
				t.Errorf("key of %d bytes, nonce of %d, counter %d: Block = %x, %d", len(key), len(nonce), n, got, e)
			}
		}
	})
}

func TestBlockOfRightLengths(t *testing.T) {
	for _, n := range counters {
		if got, e := Block(make([]byte, 32), make([]byte, 12), n); got == [64]byte{} || e != api.OK {
			t.Errorf("counter %d: Block = %x, %d", n, got, e)
		}
	}
}

// P5.1: Blocks

func TestBlocksInOrder(t *testing.T) {
	key, nonce := pattern(32), pattern(12)
	for _, from := range counters {
		next := uint64(from)
		for n, block := range Blocks(key, nonce, from) {
			if uint64(n) != next || block != want(key, nonce, n) {
				t.Errorf("from %d: %x for the counter %d; want the counter %d", from, block, n, next)
			}
			same, e := Block(key, nonce, n)
			if block != same || e != api.OK {
				t.Errorf("from %d: Blocks and Block differ for the counter %d", from, n)
			}
			next++
			if next == uint64(from)+20 {
				break
			}
		}
		if next != min(uint64(from)+20, 1<<32) {
			t.Errorf("from %d: the counters end before %d", from, next)
		}
	}
}

func TestBlocksUpToTheEnd(t *testing.T) {
	key, nonce := unhex(risingKey), unhex(blockNonce)
	for _, count := range []uint32{1, 2, 3, 64, 1000} {
		from := -count // 2^32 - count
		got := []uint32{}
		for n, block := range Blocks(key, nonce, from) {
			if got = append(got, n); len(got) > int(count) {
				t.Fatalf("from 2^32 - %d: the counter %d follows the last one", count, n)
			}
			if block != want(key, nonce, n) {
				t.Errorf("from 2^32 - %d: %x for the counter %d", count, block, n)
			}
		}
		if len(got) != int(count) {
			t.Fatalf("from 2^32 - %d: %d counters", count, len(got))
		}
		for i, n := range got {
			if n != from+uint32(i) {
				t.Errorf("from 2^32 - %d: counter %d is %d", count, i, n)
			}
		}
	}
}

func TestBlocksLeftEarly(t *testing.T) {
	for _, from := range counters {
		left := 1<<32 - uint64(from)
		for _, stop := range []int{1, 2, 3, 7, 50} {
			visits := 0
			// The iterator is called by hand: a range loop that goes on after its end would panic.
			Blocks(pattern(32), pattern(12), from)(func(n uint32, block [64]byte) bool {
				if n != from+uint32(visits) || block != want(pattern(32), pattern(12), n) {
					t.Errorf("from %d: visit %d is to the counter %d, with %x", from, visits, n, block)
				}
				visits++
				return visits != stop
			})
			if uint64(visits) != min(uint64(stop), left) {
				t.Errorf("from %d, left at visit %d: %d visits", from, stop, visits)
			}
		}
	}
}

func TestBlocksLeftByBreakReturnAndLabel(t *testing.T) {
	key, nonce := pattern(32), pattern(12)
	last := uint32(0)
	for n := range Blocks(key, nonce, 5) {
		last = n
		break
	}
	if last != 5 {
		t.Errorf("left at the first counter: the last one is %d", last)
	}
	find := func(wanted uint32) (n uint32, block [64]byte) {
		for n, block := range Blocks(key, nonce, 0) {
			if n == wanted {
				return n, block
			}
		}
		return
	}
	if n, block := find(9); n != 9 || block != want(key, nonce, 9) {
		t.Errorf("left by a return: %d, %x", n, block)
	}
	pairs := 0
outer:
	for n := range Blocks(key, nonce, 0) {
		for m := range Blocks(key, nonce, math.MaxUint32-1) {
			if pairs++; pairs > 7 {
				t.Fatalf("loops within each other: the counter %d follows within %d", m, n)
			}
			if n == 3 && m == math.MaxUint32-1 {
				break outer
			}
		}
	}
	if pairs != 7 {
		t.Errorf("loops within each other: %d pairs; want 7", pairs)
	}
}

func TestBlocksRangedOverTwice(t *testing.T) {
	key, nonce := pattern(32), pattern(12)
	for _, from := range []uint32{0, 1, 1 << 31, math.MaxUint32 - 3, math.MaxUint32 - 1, math.MaxUint32} {
		blocks := Blocks(key, nonce, from)
		for turn := range 3 {
			for _, stop := range []int{1, 2, 3, 10} {
				got := take(blocks, stop)
				if uint64(len(got)) != min(uint64(stop), 1<<32-uint64(from)) {
					t.Fatalf("from %d, turn %d: %d blocks of %d", from, turn, len(got), stop)
				}
				for i, block := range got {
					if block != want(key, nonce, from+uint32(i)) {
						t.Errorf("from %d, turn %d: block %d is %x", from, turn, i, block)
					}
				}
			}
		}
	}
}

func TestBlocksRangedOverWithinItself(t *testing.T) {
	key, nonce := pattern(32), pattern(12)
	blocks := Blocks(key, nonce, math.MaxUint32-4)
	visits := 0
	for n, block := range blocks {
		for m, inner := range blocks {
			if inner != want(key, nonce, m) {
				t.Errorf("within %d: %x for the counter %d", n, inner, m)
			}
			if visits++; visits > 25 {
				t.Fatalf("within %d: the counter %d follows the last one", n, m)
			}
		}
		if block != want(key, nonce, n) {
			t.Errorf("around: %x for the counter %d", block, n)
		}
	}
	if visits != 25 {
		t.Errorf("%d visits; want 25", visits)
	}
}

func TestBlocksOfWrongLengths(t *testing.T) {
	eachWrong(func(key, nonce []byte) {
		for _, from := range counters {
			blocks := Blocks(key, nonce, from)
			if blocks == nil {
				t.Fatalf("key of %d bytes, nonce of %d: no iterator to range over", len(key), len(nonce))
			}
			for range 2 {
				for n := range blocks {
					t.Fatalf("key of %d bytes, nonce of %d: the counter %d is visited", len(key), len(nonce), n)
				}
			}
		}
	})
}

// P5.2

func TestMixVectors(t *testing.T) {
	for _, v := range mixVectors {
		got, e := Mix(unhex(v.key), unhex(v.nonce), v.from, []byte(v.text))
		if hex.EncodeToString(got) != v.want || e != api.OK {
			t.Errorf("%s: Mix = %x, %d; want %s", v.name, got, e, v.want)
		}
	}
}

func TestMixOfZerosIsTheBlocks(t *testing.T) {
	for _, v := range blockVectors {
		for n := range 65 {
			got, e := Mix(unhex(v.key), unhex(v.nonce), v.n, make([]byte, n))
			if hex.EncodeToString(got) != v.want[:2*n] || e != api.OK {
				t.Errorf("%s: Mix of %d zeros = %x, %d", v.name, n, got, e)
			}
		}
	}
}

func TestMixEverySize(t *testing.T) {
	key, nonce := pattern(32), pattern(12)
	for n := range 400 {
		checkMix(t, key, nonce, uint32(n), pattern(n))
	}
	for _, n := range sizes {
		for _, from := range counters {
			if need, left := uint64(n+63)/64, 1<<32-uint64(from); need <= left {
				checkMix(t, key, nonce, from, pattern(n))
			}
		}
	}
}

func TestMixOfNothing(t *testing.T) {
	for _, from := range counters {
		for _, b := range [][]byte{nil, {}, pattern(100)[:0], pattern(100)[100:]} {
			if got, e := Mix(pattern(32), pattern(12), from, b); len(got) != 0 || e != api.OK {
				t.Errorf("counter %d: Mix of nothing = %x, %d", from, got, e)
			}
		}
	}
}

func TestMixUpToTheLastBlock(t *testing.T) {
	key, nonce := pattern(32), pattern(12)
	for _, count := range []int{1, 2, 3, 16} {
		from := -uint32(count) // 2^32 - count
		for _, n := range []int{0, 1, 64*count - 64, 64*count - 63, 64*count - 1, 64 * count} {
			checkMix(t, key, nonce, from, pattern(n))
		}
		for _, n := range []int{64*count + 1, 64*count + 63, 64*count + 64, 64*count + 65, 64*count + 128, 8192} {
			if got, e := Mix(key, nonce, from, pattern(n)); len(got) != 0 || cap(got) != 0 || e != api.ErrCap {
				t.Errorf("from 2^32 - %d: Mix of %d bytes = %x, %d", count, n, got, e)
			}
		}
	}
}

func TestMixFromLowCountersHasRoom(t *testing.T) {
	for _, from := range []uint32{0, 1, 1 << 31, math.MaxUint32 - 16383} {
		checkMix(t, pattern(32), pattern(12), from, pattern(1<<20))
	}
}

func TestMixOfWrongLengths(t *testing.T) {
	eachWrong(func(key, nonce []byte) {
		for _, from := range counters {
			// Up to the last counters, the bytes would also need too many blocks: ErrArg goes first.
			for _, n := range []int{0, 1, 64, 65, 128, 129, 2000} {
				if got, e := Mix(key, nonce, from, pattern(n)); len(got) != 0 || cap(got) != 0 || e != api.ErrArg {
					t.Errorf("key of %d bytes, nonce of %d, counter %d: Mix of %d bytes = %x, %d", len(key), len(nonce), from, n, got, e)
				}
			}
			if got, e := Mix(key, nonce, from, nil); len(got) != 0 || e != api.ErrArg {
				t.Errorf("key of %d bytes, nonce of %d, counter %d: Mix of nil = %x, %d", len(key), len(nonce), from, got, e)
			}
		}
	})
}

// P5.3

func TestMixTwiceGivesBack(t *testing.T) {
	for _, v := range mixVectors {
		got, e := Mix(unhex(v.key), unhex(v.nonce), v.from, unhex(v.want))
		if string(got) != v.text || e != api.OK {
			t.Errorf("%s: Mix of what was mixed = %q, %d", v.name, got, e)
		}
	}
	key, nonce := pattern(32), pattern(12)
	for _, n := range sizes {
		for _, from := range []uint32{0, 1, 1 << 31, uint32(1<<32 - max(1, (n+63)/64))} {
			once, _ := Mix(key, nonce, from, pattern(n))
			twice, e := Mix(key, nonce, from, once)
			if !bytes.Equal(twice, pattern(n)) || e != api.OK {
				t.Errorf("counter %d: %d bytes mixed twice are %x, %d", from, n, twice, e)
			}
			if n > 8 && bytes.Equal(once, pattern(n)) {
				t.Errorf("counter %d: %d bytes are not mixed at all", from, n)
			}
		}
	}
}

func TestPartAtABlockBoundary(t *testing.T) {
	key, nonce := pattern(32), pattern(12)
	for _, n := range []int{1, 63, 64, 65, 127, 128, 129, 640, 1000} {
		last := uint32(1<<32 - (n+63)/64)
		for _, from := range []uint32{0, 1, 1<<31 - 2, last} {
			whole, _ := Mix(key, nonce, from, pattern(n))
			for at := 0; at < n; at += 64 {
				for _, end := range []int{at, at + 1, at + 63, at + 64, at + 65, at + 128, n} {
					end = min(end, n)
					got, e := Mix(key, nonce, from+uint32(at/64), pattern(n)[at:end])
					if !bytes.Equal(got, whole[at:end]) || e != api.OK {
						t.Errorf("counter %d: of %d bytes, those from %d to %d are %x alone, %d; want %x", from, n, at, end, got, e, whole[at:end])
					}
				}
			}
		}
	}
}

func TestPartElsewhereIsAnother(t *testing.T) {
	key, nonce := pattern(32), pattern(12)
	whole, _ := Mix(key, nonce, 1, pattern(192))
	for _, at := range []int{1, 32, 63, 65, 127} {
		if got, _ := Mix(key, nonce, 1+uint32(at/64), pattern(192)[at:]); bytes.Equal(got, whole[at:]) {
			t.Errorf("a part that starts at byte %d is processed as if it started a block", at)
		}
	}
	for _, from := range []uint32{0, 2, 3} {
		if got, _ := Mix(key, nonce, from, pattern(192)); bytes.Equal(got, whole) {
			t.Errorf("the counter %d gives what the counter 1 gives", from)
		}
	}
}

// Memory (DOC.md, 'Rules that hold everywhere')

func TestArgumentsAreLeftAsTheyWere(t *testing.T) {
	keys, nonces, texts := pattern(256), pattern(256), pattern(512)
	for _, k := range []int{0, 31, 32, 33} {
		for _, m := range []int{0, 11, 12, 13} {
			for _, n := range []int{0, 1, 63, 64, 65, 127, 128, 129} {
				for _, from := range []uint32{0, math.MaxUint32 - 1, math.MaxUint32} {
					Block(keys[:k], nonces[:m], from)
					take(Blocks(keys[:k], nonces[:m], from), 3)
					Mix(keys[:k], nonces[:m], from, texts[:n])
				}
			}
			if !bytes.Equal(keys, pattern(256)) || !bytes.Equal(nonces, pattern(256)) || !bytes.Equal(texts, pattern(512)) {
				t.Fatalf("a key of %d bytes, a nonce of %d, the bytes or their spare capacity are changed", k, m)
			}
		}
	}
}

func TestSpareCapacityDoesNotCount(t *testing.T) {
	room := pattern(300)
	key, nonce, text := bytes.Clone(room[:32]), bytes.Clone(room[100:112]), bytes.Clone(room[200:265])
	if got, e := Block(room[:32], room[100:112], 7); got != want(key, nonce, 7) || e != api.OK {
		t.Errorf("Block = %x, %d", got, e)
	}
	if got := take(Blocks(room[:32], room[100:112], 7), 2); got[0] != want(key, nonce, 7) || got[1] != want(key, nonce, 8) {
		t.Errorf("Blocks = %x", got)
	}
	if got, e := Mix(room[:32], room[100:112], 7, room[200:265]); !bytes.Equal(got, wantMix(key, nonce, 7, text)) || e != api.OK {
		t.Errorf("Mix = %x, %d", got, e)
	}
	if _, e := Block(room[:31], room[:12], 0); e != api.ErrArg {
		t.Error("the spare capacity of a key counts")
	}
	if _, e := Mix(room[:32], room[:11], 0, nil); e != api.ErrArg {
		t.Error("the spare capacity of a nonce counts")
	}
}

func TestArgumentsMayShareMemory(t *testing.T) {
	room := pattern(200)
	for n := range 200 {
		checkMix(t, room[:32], room[20:32], 3, room[:n])
	}
	if !bytes.Equal(room, pattern(200)) {
		t.Error("arguments that share memory are changed")
	}
}

func TestBlocksDoNotKeepWhatWasHandedIn(t *testing.T) {
	key, nonce := pattern(32), pattern(12)
	blocks := Blocks(key, nonce, 1)
	overwrite(key)
	overwrite(nonce)
	for n, block := range blocks {
		if block != want(pattern(32), pattern(12), n) {
			t.Errorf("written over beforehand: %x for the counter %d", block, n)
		}
		overwrite(key)
		clear(nonce)
		if n == 4 {
			break
		}
	}
	clear(key)
	if got := take(blocks, 2); got[0] != want(pattern(32), pattern(12), 1) || got[1] != want(pattern(32), pattern(12), 2) {
		t.Errorf("written over afterwards, ranged over again: %x", got)
	}
}

func TestWhatWasHandedInMayBeWrittenOver(t *testing.T) {
	for _, n := range sizes {
		key, nonce, text := pattern(32), pattern(12), pattern(n)
		first, _ := Mix(key, nonce, 1, text)
		overwrite(key)
		overwrite(nonce)
		overwrite(text)
		if !bytes.Equal(first, wantMix(pattern(32), pattern(12), 1, pattern(n))) {
			t.Errorf("what %d bytes are mixed to changes with what was handed in", n)
		}
		checkMix(t, key, nonce, 1, text)
		checkMix(t, pattern(32), pattern(12), 1, pattern(n))
	}
}

func TestResultsAreIndependent(t *testing.T) {
	key, nonce := pattern(32), pattern(12)
	for _, n := range sizes {
		text := pattern(n)
		first, _ := Mix(key, nonce, 1, text)
		second, _ := Mix(key, nonce, 1, text)
		overwrite(first[:cap(first)])
		if !bytes.Equal(second, wantMix(key, nonce, 1, text)) {
			t.Errorf("two results of %d bytes share memory", n)
		}
		checkMix(t, key, nonce, 1, text)
		if !bytes.Equal(key, pattern(32)) || !bytes.Equal(nonce, pattern(12)) || !bytes.Equal(text, pattern(n)) {
			t.Errorf("a result of %d bytes shares memory with an argument", n)
		}
	}
}

func TestBlocksAreIndependent(t *testing.T) {
	key, nonce := pattern(32), pattern(12)
	blocks := Blocks(key, nonce, 1)
	for n, block := range blocks {
		if block != want(key, nonce, n) {
			t.Errorf("the counter %d: %x, after an earlier block was written over", n, block)
		}
		overwrite(block[:])
		if n == 5 {
			break
		}
	}
	first, _ := Block(key, nonce, 1)
	overwrite(first[:])
	if second, _ := Block(key, nonce, 1); second != want(key, nonce, 1) || take(blocks, 1)[0] != second {
		t.Error("writing to a block changes a later one")
	}
}

func TestAnErrorChangesNothing(t *testing.T) {
	key, nonce := pattern(32), pattern(12)
	blocks := Blocks(key, nonce, math.MaxUint32-1)
	Mix(key, nonce, math.MaxUint32, pattern(65))
	Mix(key, nil, 0, pattern(65))
	Block(nil, nonce, 0)
	take(Blocks(key[1:], nonce, 0), 1)
	if got := take(blocks, 5); len(got) != 2 || got[0] != want(key, nonce, math.MaxUint32-1) || got[1] != want(key, nonce, math.MaxUint32) {
		t.Errorf("Blocks after errors: %x", got)
	}
	checkMix(t, key, nonce, math.MaxUint32, pattern(64))
}

// checkMix fails unless Mix returns what wantMix computes.
func checkMix(t *testing.T, key, nonce []byte, from uint32, b []byte) {
	t.Helper()
	got, e := Mix(key, nonce, from, b)
	if !bytes.Equal(got, wantMix(key, nonce, from, b)) || e != api.OK {
		t.Errorf("counter %d: Mix of %d bytes = %x, %d", from, len(b), got, e)
	}
}

// eachWrong calls check with every pair of a key and a nonce of which one or both have a wrong length.
func eachWrong(check func(key, nonce []byte)) {
	keys := [][]byte{nil, {}, pattern(1), pattern(12), pattern(16), pattern(31), pattern(32), pattern(33), pattern(64), pattern(1000)}
	nonces := [][]byte{nil, {}, pattern(1), pattern(8), pattern(11), pattern(12), pattern(13), pattern(24), pattern(32), pattern(1000)}
	for _, key := range keys {
		for _, nonce := range nonces {
			if len(key) != 32 || len(nonce) != 12 {
				check(key, nonce)
			}
		}
	}
}

// take returns the first n blocks, or all if there are fewer.
func take(blocks iter.Seq2[uint32, [64]byte], n int) [][64]byte {
	out := [][64]byte{}
	for _, block := range blocks {
		out = append(out, block)
		if len(out) == n {
			break
		}
	}
	return out
}

// wantMix returns b exclusive-ored, byte by byte, with the blocks that want computes.
func wantMix(key, nonce []byte, from uint32, b []byte) []byte {
	out := make([]byte, len(b))
	block := [64]byte{}
	for i := range b {
		if i%64 == 0 {
			block = want(key, nonce, from+uint32(i/64))
		}
		out[i] = b[i] ^ block[i%64]
	}
	return out
}

// want returns a block as a second implementation computes it: rows of four words, of which all columns are processed at once and which are turned to get at the diagonals.
func want(key, nonce []byte, n uint32) [64]byte {
	state := append([]byte("expand 32-byte k"), key...)
	state = binary.LittleEndian.AppendUint32(state, n)
	state = append(state, nonce...)
	rows := [4][4]uint32{}
	for i := range 16 {
		rows[i/4][i%4] = binary.LittleEndian.Uint32(state[4*i:])
	}
	for round := range 20 {
		for i := range 4 {
			step(&rows, i, 0, 1, 3, 16)
			step(&rows, i, 2, 3, 1, 12)
			step(&rows, i, 0, 1, 3, 8)
			step(&rows, i, 2, 3, 1, 7)
		}
		for r := range 4 {
			by := r
			if round%2 == 1 {
				by = 4 - r
			}
			old := rows[r]
			for i := range 4 {
				rows[r][i] = old[(i+by)%4]
			}
		}
	}
	block := [64]byte{}
	for i := range 16 {
		binary.LittleEndian.PutUint32(block[4*i:], rows[i/4][i%4]+binary.LittleEndian.Uint32(state[4*i:]))
	}
	return block
}

// step adds, in column i, the word of row b to that of row a, and exclusive-ors the result into that of row d, which is rotated.
func step(rows *[4][4]uint32, i, a, b, d, by int) {
	rows[a][i] += rows[b][i]
	rows[d][i] = bits.RotateLeft32(rows[d][i]^rows[a][i], by)
}

// overwrite changes every byte of b.
func overwrite(b []byte) {
	for i := range b {
		b[i] ^= 0xee
	}
}

// pattern returns n bytes that do not repeat with the blocks.
func pattern(n int) []byte {
	b := make([]byte, n)
	for i := range b {
		b[i] = byte(i%251 + 1)
	}
	return b
}

// unhex returns the bytes of hexadecimal digits.
func unhex(s string) []byte {
	b, err := hex.DecodeString(s)
	if err != nil {
		panic(err)
	}
	return b
}
