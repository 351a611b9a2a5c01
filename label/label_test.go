package label

import (
	"bytes"
	"crypto/hmac"
	"crypto/sha256"
	"encoding/binary"
	"encoding/hex"
	"fmt"
	"math"
	"slices"
	"strings"
	"testing"

	"hypogeum/api"
)

// rightPurposes are purposes of all sorts; some are beginnings of others.
var rightPurposes = []string{"a", "z", "aa", "az", "za", "zz", "seal", "sealed", "name", "cut", "manifest", "m", "man",
	"abcdefghijklmno", "abcdefghijklmnop", "qrstuvwxyzabcdef", strings.Repeat("a", 15), strings.Repeat("a", 16), strings.Repeat("z", 16)}

// wrongPurposes are texts that are no purposes.
var wrongPurposes = []string{"", " ", "\x00", "A", "Z", "0", "9", "_", "-", ".", "`", "{", "\x7f", "\x80", "\xff",
	"Seal", "seaL", "SEAL", "se al", " seal", "seal ", "seal\n", "seal\x00", "\x00seal", "se\x00al", "seal\x00\x00\x00\x00\x00\x00\x00\x00\x01", "seal1", "1seal", "se-al",
	"schlüssel", "é", "日本", "sea\xff", "ａ", "ſeal", "\xe1", "ŋ", "abcdefghijklmnoP", "abcdefghijklmno ",
	"abcdefghijklmnopq", "abcdefghijklmnop ", strings.Repeat("a", 17), strings.Repeat("z", 32), strings.Repeat("a", 256), strings.Repeat("a", 257), strings.Repeat("a", 272),
	strings.Repeat("a", 1<<16+4), strings.Repeat("seal", 100000)}

// wrongEpochs are numbers that are no epochs: some of them are right ones in their lowest byte, or in their lowest four.
var wrongEpochs = []int{0, -1, -2, -63, -64, -65, -255, -256, -1 << 31, -1<<32 + 1, -1 << 40, math.MinInt + 1, math.MinInt,
	65, 66, 127, 128, 255, 256, 257, 320, 1<<16 + 1, 1 << 31, 1 << 32, 1<<32 + 1, 1<<32 + 64, 1 << 53, math.MaxInt - 1, math.MaxInt}

// wrongKinds are numbers that are no kinds.
var wrongKinds = []int{-1, -2, -128, -255, -256, -257, -1 << 32, math.MinInt + 1, math.MinInt,
	256, 257, 258, 511, 512, 1 << 16, 1<<32 + 1, 1 << 53, math.MaxInt - 1, math.MaxInt}

// wrongSizes are lengths that neither a master key nor a key has.
var wrongSizes = []int{0, 1, 16, 30, 31, 33, 34, 63, 64, 65, 256 + 32, 1000, 1<<16 + 32}

// textSizes are the lengths around which the number of blocks of a sum changes, and lengths far from them.
var textSizes = []int{0, 1, 2, 31, 32, 53, 54, 55, 56, 62, 63, 64, 65, 66, 126, 127, 128, 129, 1000, 8192, 1 << 17}

// keyVectors are keys as OpenSSL computes them; the master key is made of bytes 0, by pattern, or of bytes ff.
var keyVectors = []struct {
	purpose              string
	epoch                int
	zeros, pattern, ones string
}{
	{"seal", 1, "b9eb94416ab54da5cca9de490f7ebb750fbb556c5371732623f9a6daaaceb443",
		"6b4d020438ed6851b4c26b5bbb15b370761e30096015d48e44734a31b7dae11e", "013e60d21217f362ccd5879637c0cb09399ad11d5bc287c2d0e29fc7dfad1056"},
	{"a", 1, "d056a347d353a278fe068ba3d0f84c714936aa090f16684590097fc74a31d325",
		"8c2e72972f30a9a0e9c9a57878ed95d7c0ef488c0d1ff75e7335d46e6f610830", "6e5baf5eaf2ebd07d66935a02bd5c7a44e7ded9f4f996168051845e72b6cc0b1"},
	{"z", 2, "fe626b2b37bf42d6bee81fa1717d50e0cd011604aa6bc2c47ef0ee805695cca5",
		"61253035af65d42b3a106b796d47a5de2853b124bbffffadf2c3e2d217892b0b", "be6eda8d5544bbe9cb3ee5f7dbce8e24432f95fcd249608da6eca5d9af81b0fd"},
	{"manifest", 2, "43d88ef6c25f2fc7556024d5e38900a17ce62a307bb9b3c8c6513ea53aefd90a",
		"b2fbb2bd9fc2a9f8fdad45e02851c48c6092de3ca4b286a6d2c458cca8594125", "f193efa0727178a7f9f9420e6d574107b8254411e3f4375778c80dc86f820661"},
	{"seal", 64, "2d9e6453edfc41d2d54f71982140d813e04a1d8e12104cb648defbd6ffdbbfb9",
		"757895b56c0c74cf9b7703c016b5782a943cff766e540dc26c28c9f5da216ac5", "c8981495bd83c26a160409d5a641646485f30b9b741e0202cb4511e8eb9a9496"},
	{"abcdefghijklmnop", 64, "0bbba3fed87a0a0cb1340b6b1c4e56c10b9bcfc6bee2072c5af3c363a47b349b",
		"f5d2c46daf9a27f486078b1f2558797d708074cd8feb5b0bbdaa8cb33fc3c07a", "6cd1099a3d57bd48408021529c241b29f733e0c3d71aaabc5b7602a0993112cc"},
	{"qrstuvwxyzabcdef", 1, "46c2201e3dadad6675bdaa1e36c42b8141af5f6019bd5b13fc0215ff1e1a770c",
		"b6802292859587aa142f054d9c7480874adb3b00ee17a4f3e69f41ffac7254b2", "84729f6be3bb3949011b65326317cf8d98b004f1c2fd103927fdb97f8cdb5b6b"},
}

// idVectors are ids as OpenSSL computes them, under a key and for a text of so many bytes that pattern makes.
var idVectors = []struct {
	kind, size int
	want       string
}{
	{0, 0, "ab7d908508b3f307456c8540bfcdb452542c02e053dc161290f15b5bf8716544"},
	{0, 1, "250516d5522f3f1763d354dc916ad9740464219a7fe9d7663b1eac943adb37fc"},
	{1, 0, "e8ad8c1d8e445d45f79f2258b38297fc247dd7b03c7a5f6b098ac8519d5a1559"},
	{1, 63, "158320a60d7ba9109a03581f65889ff6f5278476af5e6cc666c9f27f4000f983"},
	{2, 64, "4689afa222d75dea8827605efd448d6214d303e23bb282fb356f997fb152745c"},
	{127, 65, "68bc06ab6272c4e8885952cfe78d05a04bfe194b76e3800b97139e0686908f7f"},
	{128, 1, "1990d38278a32483c4f4ab2f17d65fa6cbb95670edbb0fd70dd1a3b2f2ee6aa3"},
	{255, 0, "d4c65b52abeaf19fecd787ed4bb5139987c299df40612caeee2058e6e9b0a023"},
	{255, 1000, "7bd3b6bd23416c14730c292f45a671ca1958ccfcfb1c185d92d7aef678b5bf38"},
}

// P9.1: Key

func TestExample(t *testing.T) {
	message := unhex("7365616c000000000000000001")
	got, e := Key(make([]byte, 32), "seal", 1)
	if want := tag(make([]byte, 32), message); !bytes.Equal(got, want) || e != api.OK {
		t.Errorf("Key of zeros for seal in epoch 1 = %x, %d; want %x", got, e, want)
	}
}

func TestKeyVectors(t *testing.T) {
	for _, v := range keyVectors {
		for _, c := range []struct {
			master []byte
			want   string
		}{{make([]byte, 32), v.zeros}, {pattern(32), v.pattern}, {ones(32), v.ones}} {
			if got, e := Key(c.master, v.purpose, v.epoch); hex.EncodeToString(got) != c.want || e != api.OK {
				t.Errorf("Key(%x, %q, %d) = %x, %d; want %s", c.master, v.purpose, v.epoch, got, e, c.want)
			}
		}
	}
}

func TestKeyForEveryPurposeAndEpoch(t *testing.T) {
	for _, master := range someMasters() {
		for _, purpose := range rightPurposes {
			for epoch := 1; epoch <= 64; epoch++ {
				checkKey(t, master, purpose, epoch)
			}
		}
	}
}

func TestKeyForEveryLetterAtEveryPlace(t *testing.T) {
	eachPlace(func(purpose []byte, at int) {
		for c := byte('a'); c <= 'z'; c++ {
			purpose[at] = c
			checkKey(t, pattern(32), string(purpose), 7)
		}
	})
}

func TestKeyForEveryOtherByteAtEveryPlace(t *testing.T) {
	eachPlace(func(purpose []byte, at int) {
		for c := range 256 {
			if c < 'a' || c > 'z' {
				purpose[at] = byte(c)
				checkNoKey(t, pattern(32), string(purpose), 7)
			}
		}
	})
}

func TestKeyForEveryLengthOfAPurpose(t *testing.T) {
	for n := range 600 {
		for _, letter := range []string{"a", "k", "z"} {
			purpose := strings.Repeat(letter, n)
			if n >= 1 && n <= 16 {
				checkKey(t, pattern(32), purpose, 7)
			} else {
				checkNoKey(t, pattern(32), purpose, 7)
			}
		}
	}
}

func TestKeyForWrongPurposes(t *testing.T) {
	for _, purpose := range wrongPurposes {
		for _, epoch := range []int{1, 7, 64} {
			checkNoKey(t, pattern(32), purpose, epoch)
		}
	}
}

func TestKeyForWrongEpochs(t *testing.T) {
	for _, epoch := range wrongEpochs {
		for _, purpose := range rightPurposes {
			checkNoKey(t, pattern(32), purpose, epoch)
		}
	}
	for epoch := -300; epoch <= 600; epoch++ {
		if epoch >= 1 && epoch <= 64 {
			checkKey(t, pattern(32), "seal", epoch)
		} else {
			checkNoKey(t, pattern(32), "seal", epoch)
		}
	}
}

func TestKeyOfWrongMasters(t *testing.T) {
	for _, purpose := range rightPurposes {
		checkNoKey(t, nil, purpose, 1)
		for _, n := range wrongSizes {
			checkNoKey(t, make([]byte, n), purpose, 1)
			checkNoKey(t, pattern(n), purpose, 64)
		}
	}
	for n := range 300 {
		if n == 32 {
			checkKey(t, pattern(n), "seal", 1)
		} else {
			checkNoKey(t, pattern(n), "seal", 1)
		}
	}
}

func TestKeyOfSeveralWrongArguments(t *testing.T) {
	for _, purpose := range wrongPurposes {
		for _, epoch := range wrongEpochs {
			checkNoKey(t, pattern(32), purpose, epoch)
			for _, n := range []int{0, 31, 33} {
				checkNoKey(t, pattern(n), purpose, epoch)
				checkNoKey(t, pattern(n), purpose, 1)
				checkNoKey(t, pattern(n), "seal", epoch)
			}
		}
	}
}

func TestEveryPartCountsForAKey(t *testing.T) {
	seen := map[string]string{}
	note := func(master []byte, purpose string, epoch int) {
		what := fmt.Sprintf("%x, %q, %d", master, purpose, epoch)
		got, e := Key(master, purpose, epoch)
		if before, found := seen[string(got)]; found || e != api.OK {
			t.Errorf("the keys for %s and for %s are alike, or there is none: %d", before, what, e)
		}
		seen[string(got)] = what
	}
	for _, purpose := range rightPurposes {
		for epoch := 1; epoch <= 64; epoch++ {
			note(pattern(32), purpose, epoch)
		}
	}
	master := pattern(32)
	for i := range master {
		for bit := range 8 {
			master[i] ^= 1 << bit
			note(master, "seal", 1)
			master[i] ^= 1 << bit
		}
	}
	// A purpose that is a beginning of another one, with every epoch for either.
	for n := 1; n <= 14; n++ {
		for epoch := 1; epoch <= 64; epoch++ {
			note(ones(32), strings.Repeat("a", n), epoch)
			note(ones(32), strings.Repeat("a", n)+"b", epoch)
		}
	}
}

// P9.1: ID

func TestIDVectors(t *testing.T) {
	for _, v := range idVectors {
		if got, e := ID(pattern(32), v.kind, pattern(v.size)); hex.EncodeToString(got[:]) != v.want || e != api.OK {
			t.Errorf("ID of kind %d and %d bytes = %x, %d; want %s", v.kind, v.size, got, e, v.want)
		}
	}
	if got, e := ID(make([]byte, 32), 2, []byte("text")); hex.EncodeToString(got[:]) != "74ec8e10158dbc84c5a5aae71c0112e533e7273bc32d8663ee7564852ab9be75" || e != api.OK {
		t.Errorf("ID of kind 2 and text, under zeros = %x, %d", got, e)
	}
}

func TestIDOfEveryKind(t *testing.T) {
	for _, key := range someMasters() {
		for kind := range 256 {
			for _, text := range [][]byte{nil, {}, {0}, {byte(kind)}, pattern(40), ones(64)} {
				checkID(t, key, kind, text)
			}
		}
	}
}

func TestIDOfEverySize(t *testing.T) {
	for _, n := range textSizes {
		for _, kind := range []int{0, 1, 2, 3, 4, 254, 255} {
			checkID(t, pattern(32), kind, pattern(n))
			checkID(t, ones(32), kind, make([]byte, n))
		}
	}
	for n := range 300 {
		checkID(t, pattern(32), n%256, pattern(n))
	}
}

func TestIDOfNothing(t *testing.T) {
	want, _ := ID(pattern(32), 1, nil)
	for _, text := range [][]byte{{}, pattern(9)[:0], pattern(9)[9:]} {
		if got, e := ID(pattern(32), 1, text); got != want || e != api.OK {
			t.Errorf("ID of an empty text = %x, %d; that of nil is %x", got, e, want)
		}
	}
}

func TestIDOfWrongKinds(t *testing.T) {
	for _, kind := range wrongKinds {
		for _, n := range []int{0, 1, 64, 1000} {
			checkNoID(t, pattern(32), kind, pattern(n))
		}
		checkNoID(t, pattern(32), kind, nil)
	}
	for kind := -600; kind <= 900; kind++ {
		if kind >= 0 && kind <= 255 {
			checkID(t, pattern(32), kind, pattern(5))
		} else {
			checkNoID(t, pattern(32), kind, pattern(5))
		}
	}
}

func TestIDUnderWrongKeys(t *testing.T) {
	for _, text := range [][]byte{nil, {}, pattern(64), pattern(1000)} {
		for _, kind := range slices.Concat([]int{0, 1, 255}, wrongKinds) {
			checkNoID(t, nil, kind, text)
			for _, n := range wrongSizes {
				checkNoID(t, make([]byte, n), kind, text)
				checkNoID(t, pattern(n), kind, text)
			}
		}
	}
	for n := range 300 {
		if n == 32 {
			checkID(t, pattern(n), 1, pattern(5))
		} else {
			checkNoID(t, pattern(n), 1, pattern(5))
		}
	}
}

func TestEveryPartCountsForAnID(t *testing.T) {
	seen := map[api.ID]string{}
	note := func(key []byte, kind int, text []byte) {
		what := fmt.Sprintf("%x, %d, %x", key, kind, text)
		got, e := ID(key, kind, text)
		if before, found := seen[got]; found || e != api.OK {
			t.Errorf("the ids for %s and for %s are alike, or there is none: %d", before, what, e)
		}
		seen[got] = what
	}
	key, text := pattern(32), pattern(70)
	for kind := range 256 {
		note(key, kind, text)
		note(key, kind, nil)
		note(key, kind, []byte{0})
		note(key, kind, append([]byte{byte(kind)}, text...))
	}
	for _, part := range [][]byte{key, text} {
		for i := range part {
			part[i] ^= 1
			note(key, 1, text)
			part[i] ^= 1
		}
	}
	for n := 1; n < 70; n++ {
		note(key, 1, text[:n])
		note(key, 1, text[n:])
	}
}

// P9.2: New, Put, Master, Epochs and Last

func TestNewHasNoMasterKeys(t *testing.T) {
	w := watch(t)
	w.checkAll(t)
	w.checkAll(t)
	if a, b := New(), New(); a == b {
		t.Error("New returns one ring twice")
	}
}

func TestPutOne(t *testing.T) {
	for epoch := 1; epoch <= 64; epoch++ {
		for _, master := range someMasters() {
			w := watch(t)
			w.put(t, epoch, master)
			w.checkAll(t)
			w.checkAll(t)
		}
	}
}

func TestPutSomeInAnyOrder(t *testing.T) {
	for _, order := range [][]int{{1, 2}, {2, 1}, {1, 64}, {64, 1}, {3, 1}, {1, 2, 3}, {3, 2, 1}, {2, 3, 1}, {2, 1, 3}, {3, 1, 2},
		{10, 9, 2, 20, 1, 19}, {64, 63, 32, 33, 31}, {32, 64, 1}, {7, 5, 6}} {
		w := watch(t)
		for _, epoch := range order {
			w.put(t, epoch, master(epoch))
		}
		w.checkAll(t)
		// The same ones, in another order.
		other := watch(t)
		for _, epoch := range slices.Backward(order) {
			other.put(t, epoch, master(epoch))
		}
		other.checkAll(t)
	}
}

func TestPutAll(t *testing.T) {
	for _, step := range []int{1, 3, 5, 31, 63} {
		w := watch(t)
		for i := range 64 {
			w.put(t, i*step%64+1, master(i))
		}
		w.checkAll(t)
		for epoch := 1; epoch <= 64; epoch++ {
			w.put(t, epoch, master(epoch))
			w.put(t, epoch, w.masters[epoch])
		}
		w.put(t, 65, master(65))
		w.put(t, 0, master(0))
		w.checkAll(t)
		if w.r.Last() != 64 || len(w.r.Epochs()) != 64 {
			t.Errorf("a full ring: %v, %d", w.r.Epochs(), w.r.Last())
		}
	}
}

func TestPutOneMasterForAll(t *testing.T) {
	w := watch(t)
	for epoch := 64; epoch >= 1; epoch-- {
		w.put(t, epoch, pattern(32))
	}
	w.checkAll(t)
}

func TestPutWhatIsThere(t *testing.T) {
	w := watch(t)
	for _, epoch := range []int{3, 1, 64} {
		w.put(t, epoch, master(epoch))
		for range 2 {
			w.put(t, epoch, master(epoch))
			w.put(t, epoch, master(epoch+100))
			w.put(t, epoch, make([]byte, 32))
		}
		w.checkAll(t)
	}
	// A master key of zeros is there like any other one.
	w.put(t, 2, make([]byte, 32))
	w.put(t, 2, make([]byte, 32))
	w.put(t, 2, ones(32))
	w.checkAll(t)
	r := New()
	if a, b, c := r.Put(5, ones(32)), r.Put(5, ones(32)), r.Put(5, make([]byte, 32)); a != api.OK || b != api.ErrThere || c != api.ErrThere {
		t.Errorf("Put of one epoch, three times = %d, %d, %d", a, b, c)
	}
	if got := r.Master(5); !bytes.Equal(got, ones(32)) {
		t.Errorf("Master(5) = %x", got)
	}
}

func TestPutOfWrongArguments(t *testing.T) {
	for _, first := range [][]int{{}, {1}, {64}, {7, 3}} {
		w := watch(t)
		for _, epoch := range first {
			w.put(t, epoch, master(epoch))
		}
		for _, epoch := range wrongEpochs {
			w.put(t, epoch, pattern(32))
			w.put(t, epoch, nil)
			w.put(t, epoch, pattern(31))
		}
		for _, n := range wrongSizes {
			w.put(t, 2, pattern(n))
			// ErrArg goes ahead of ErrThere.
			w.put(t, 1, pattern(n))
			w.put(t, 64, make([]byte, n))
		}
		w.put(t, 1, nil)
		w.put(t, 2, nil)
		w.checkAll(t)
		w.put(t, 2, pattern(32))
		w.checkAll(t)
	}
}

func TestErrArgIsAheadOfErrThere(t *testing.T) {
	r := New()
	r.Put(1, pattern(32))
	for _, n := range wrongSizes {
		if e := r.Put(1, pattern(n)); e != api.ErrArg {
			t.Errorf("Put of %d bytes for an epoch that is there = %d", n, e)
		}
	}
	if e := r.Put(1, nil); e != api.ErrArg {
		t.Errorf("Put of nil for an epoch that is there = %d", e)
	}
}

func TestMasterOfEveryEpoch(t *testing.T) {
	w := watch(t)
	for _, epoch := range []int{64, 1, 17} {
		for at := -300; at <= 600; at++ {
			w.checkMaster(t, at)
		}
		w.put(t, epoch, master(epoch))
	}
	for at := -300; at <= 600; at++ {
		w.checkMaster(t, at)
	}
	for _, at := range wrongEpochs {
		w.checkMaster(t, at)
	}
}

// P9.2: Key of a ring

func TestRingKey(t *testing.T) {
	w := watch(t)
	for _, epoch := range []int{9, 1, 64, 33} {
		w.put(t, epoch, master(epoch))
		for at := 1; at <= 64; at++ {
			for _, purpose := range rightPurposes {
				w.checkKey(t, purpose, at)
			}
		}
	}
}

func TestRingKeyOfOneMasterForAll(t *testing.T) {
	w := watch(t)
	seen := map[string]int{}
	for epoch := 1; epoch <= 64; epoch++ {
		w.put(t, epoch, pattern(32))
		key, e := w.r.Key("seal", epoch)
		if before, found := seen[string(key)]; found || e != api.OK {
			t.Errorf("the keys for epochs %d and %d are alike, or there is none: %d", before, epoch, e)
		}
		seen[string(key)] = epoch
	}
	for _, v := range keyVectors {
		if got, e := w.r.Key(v.purpose, v.epoch); hex.EncodeToString(got) != v.pattern || e != api.OK {
			t.Errorf("Key(%q, %d) = %x, %d; want %s", v.purpose, v.epoch, got, e, v.pattern)
		}
	}
}

func TestRingKeyOfWrongArguments(t *testing.T) {
	empty, one, full := watch(t), watch(t), watch(t)
	one.put(t, 7, pattern(32))
	for epoch := 1; epoch <= 64; epoch++ {
		full.put(t, epoch, master(epoch))
	}
	for _, w := range []*watched{empty, one, full} {
		for _, purpose := range wrongPurposes {
			// ErrArg goes ahead of ErrEpoch: most of these epochs have no master key in the first two rings.
			for _, epoch := range []int{1, 7, 8, 64} {
				w.checkKey(t, purpose, epoch)
			}
			for _, epoch := range wrongEpochs {
				w.checkKey(t, purpose, epoch)
			}
		}
		for _, epoch := range wrongEpochs {
			w.checkKey(t, "seal", epoch)
		}
		w.checkAll(t)
	}
}

func TestRingKeyForEveryByteAtEveryPlace(t *testing.T) {
	w := watch(t)
	w.put(t, 7, pattern(32))
	eachPlace(func(purpose []byte, at int) {
		for c := range 256 {
			purpose[at] = byte(c)
			w.checkKey(t, string(purpose), 7)
			w.checkKey(t, string(purpose), 8)
		}
	})
}

func TestErrArgIsAheadOfErrEpoch(t *testing.T) {
	r := New()
	r.Put(7, pattern(32))
	for _, c := range []struct {
		purpose string
		epoch   int
		want    api.Errno
	}{{"seal", 7, api.OK}, {"seal", 8, api.ErrEpoch}, {"seal", 1, api.ErrEpoch}, {"seal", 64, api.ErrEpoch}, {"", 8, api.ErrArg}, {"", 7, api.ErrArg},
		{"Seal", 8, api.ErrArg}, {"seal", 0, api.ErrArg}, {"seal", 65, api.ErrArg}, {"seal", -1, api.ErrArg}, {"abcdefghijklmnopq", 8, api.ErrArg}} {
		got, e := r.Key(c.purpose, c.epoch)
		if e != c.want || (len(got) == 32) != (c.want == api.OK) {
			t.Errorf("Key(%q, %d) = %x, %d; want the error %d", c.purpose, c.epoch, got, e, c.want)
		}
	}
}

// P9.2: two rings, and none

func TestTwoRingsAreIndependent(t *testing.T) {
	one, other := watch(t), watch(t)
	for i := range 64 {
		one.put(t, i+1, master(i))
		other.check(t)
		other.put(t, 64-i, master(i+1000))
		one.check(t)
		other.put(t, i+1, master(i))
	}
	one.checkAll(t)
	other.checkAll(t)
}

func TestRingCopiedByValue(t *testing.T) {
	for _, before := range [][]int{{}, {1}, {64, 3}, {5, 6, 7, 8, 9, 10, 11, 12, 13}} {
		w := watch(t)
		for _, epoch := range before {
			w.put(t, epoch, master(epoch))
		}
		r := *w.r
		c := &watched{r: &r, masters: map[int][]byte{}}
		for epoch, master := range w.masters {
			c.masters[epoch] = master
		}
		c.checkAll(t)
		for _, epoch := range []int{2, 40, 63, 3} {
			w.put(t, epoch, master(epoch+500))
			c.checkAll(t)
		}
		for _, epoch := range []int{3, 41, 64, 2} {
			c.put(t, epoch, master(epoch+900))
			w.checkAll(t)
		}
		c.checkAll(t)
	}
}

func TestNilRing(t *testing.T) {
	var r *Ring
	for range 2 {
		for _, epoch := range slices.Concat([]int{1, 2, 63, 64}, wrongEpochs) {
			for _, n := range slices.Concat(wrongSizes, []int{32}) {
				if e := r.Put(epoch, pattern(n)); e != api.ErrArg {
					t.Errorf("Put(%d) of %d bytes, nil = %d", epoch, n, e)
				}
			}
			if got := r.Master(epoch); len(got) != 0 || cap(got) != 0 {
				t.Errorf("Master(%d), nil = %x", epoch, got)
			}
			for _, purpose := range slices.Concat(rightPurposes, wrongPurposes) {
				want := api.ErrEpoch
				if !slices.Contains(rightPurposes, purpose) || epoch < 1 || epoch > 64 {
					want = api.ErrArg
				}
				if got, e := r.Key(purpose, epoch); len(got) != 0 || cap(got) != 0 || e != want {
					t.Errorf("Key(%q, %d), nil = %x, %d; want %d", purpose, epoch, got, e, want)
				}
			}
		}
		if l := r.Epochs(); len(l) != 0 || cap(l) != 0 {
			t.Errorf("Epochs, nil = %v", l)
		}
		if n := r.Last(); n != 0 {
			t.Errorf("Last, nil = %d", n)
		}
	}
}

// DOC.md, 'Memory'

func TestArgumentsAreLeftAsTheyWere(t *testing.T) {
	r := New()
	r.Put(2, pattern(32))
	for _, n := range []int{0, 1, 31, 32, 33, 64, 65} {
		for _, size := range []int{0, 1, 63, 64, 65, 1000} {
			keys, texts := pattern(200), pattern(2000)
			Key(keys[:n], "seal", 1)
			Key(keys[:n], "Seal", 1)
			ID(keys[:n], 1, texts[:size])
			ID(keys[:n], -1, texts[:size])
			ID(texts[:n], 255, texts[:size])
			r.Put(1, keys[:n])
			r.Put(2, keys[:n])
			r.Put(0, keys[:n])
			if !bytes.Equal(keys, pattern(200)) || !bytes.Equal(texts, pattern(2000)) {
				t.Fatalf("a key of %d bytes, a text of %d bytes or their spare capacity are changed", n, size)
			}
		}
	}
}

func TestSpareCapacityDoesNotCount(t *testing.T) {
	room := pattern(100)
	checkNoKey(t, room[:31], "seal", 1)
	checkNoKey(t, room[:0], "seal", 1)
	checkNoID(t, room[:31], 1, nil)
	if e := New().Put(1, room[:31]); e != api.ErrArg {
		t.Errorf("Put of 31 bytes with spare capacity = %d", e)
	}
	checkKey(t, room[:32], "seal", 1)
	checkID(t, room[:32], 1, room[:10])
	w := watch(t)
	w.put(t, 1, room[:32])
	w.checkAll(t)
}

func TestMasterKeysMayBeWrittenOver(t *testing.T) {
	r, room := New(), make([]byte, 64)
	for epoch := 1; epoch <= 64; epoch++ {
		copy(room, master(epoch))
		if e := r.Put(epoch, room[:32]); e != api.OK {
			t.Fatalf("Put(%d) = %d", epoch, e)
		}
		overwrite(room)
	}
	w := &watched{r: r, masters: map[int][]byte{}}
	for epoch := 1; epoch <= 64; epoch++ {
		w.masters[epoch] = master(epoch)
	}
	w.checkAll(t)
}

func TestWhatWasHandedInMayBeWrittenOver(t *testing.T) {
	master, text := pattern(32), pattern(100)
	key, _ := Key(master, "seal", 1)
	id, _ := ID(master, 1, text)
	overwrite(master, text)
	if !bytes.Equal(key, wantKey(pattern(32), "seal", 1)) || id != wantID(pattern(32), 1, pattern(100)) {
		t.Error("a key or an id changes with what was handed in")
	}
	checkKey(t, pattern(32), "seal", 1)
	checkID(t, pattern(32), 1, pattern(100))
}

func TestResultsAreInMemoryOfTheirOwn(t *testing.T) {
	w, room := watch(t), pattern(100)
	for _, epoch := range []int{5, 1, 64, 9} {
		w.put(t, epoch, room[:32])
	}
	// Each result is written over, up to its capacity, behind the next one.
	results := []func() []byte{
		func() []byte { return must(Key(room[:32], "seal", 5)) },
		func() []byte { return must(Key(room[:32], "seal", 5)) },
		func() []byte { return must(w.r.Key("seal", 5)) },
		func() []byte { return must(w.r.Key("seal", 5)) },
		func() []byte { return w.r.Master(5) },
		func() []byte { return w.r.Master(5) },
		func() []byte { return w.r.Master(64) },
	}
	for i, first := range results {
		for j, second := range results {
			a, b := first(), second()
			before := bytes.Clone(b)
			overwrite(a[:cap(a)])
			if !bytes.Equal(b, before) {
				t.Errorf("results %d and %d share memory", i, j)
			}
			if !bytes.Equal(room, pattern(100)) {
				t.Errorf("result %d shares memory with what was handed in", i)
			}
			w.checkAll(t)
		}
	}
}

func TestEpochsAreInMemoryOfTheirOwn(t *testing.T) {
	w := watch(t)
	for _, epoch := range []int{5, 1, 64, 9, 30} {
		w.put(t, epoch, master(epoch))
		a, b := w.r.Epochs(), w.r.Epochs()
		before := slices.Clone(b)
		for i := range a[:cap(a)] {
			a[:cap(a)][i] = 33
		}
		if !slices.Equal(b, before) {
			t.Errorf("two results of Epochs share memory: %v; want %v", b, before)
		}
		w.checkAll(t)
	}
}

func TestResultsStayAsTheyAre(t *testing.T) {
	w := watch(t)
	w.put(t, 3, master(3))
	key, of, epochs := must(w.r.Key("seal", 3)), w.r.Master(3), w.r.Epochs()
	for epoch := 1; epoch <= 64; epoch++ {
		w.put(t, epoch, ones(32))
	}
	if !bytes.Equal(key, wantKey(master(3), "seal", 3)) || !bytes.Equal(of, master(3)) || !slices.Equal(epochs, []int{3}) {
		t.Errorf("what was returned changes to %x, %x, %v", key, of, epochs)
	}
}

func TestResultsDoNotChangeFromCallToCall(t *testing.T) {
	for range 50 {
		r := New()
		for i := range 20 {
			r.Put(i*7%20+1, master(i*7%20+1))
		}
		for i, epoch := range r.Epochs() {
			if epoch != i+1 {
				t.Fatalf("Epochs = %v", r.Epochs())
			}
		}
		if r.Last() != 20 {
			t.Fatalf("Last = %d", r.Last())
		}
	}
}

// watched is a ring beside the master keys that it must have.
type watched struct {
	r       *Ring
	masters map[int][]byte
}

// watch returns a new ring.
func watch(t *testing.T) *watched {
	t.Helper()
	w := &watched{r: New(), masters: map[int][]byte{}}
	if w.r == nil {
		t.Fatal("New returns nil")
	}
	w.check(t)
	return w
}

// put fails unless Put returns what it must, and the ring is as it must be afterwards.
func (w *watched) put(t *testing.T, epoch int, master []byte) {
	t.Helper()
	want := api.OK
	if epoch < 1 || epoch > 64 || len(master) != 32 {
		want = api.ErrArg
	} else if w.masters[epoch] != nil {
		want = api.ErrThere
	} else {
		w.masters[epoch] = bytes.Clone(master)
	}
	if e := w.r.Put(epoch, master); e != want {
		t.Fatalf("Put(%d) of %d bytes = %d; want %d", epoch, len(master), e, want)
	}
	w.check(t)
	w.checkMaster(t, epoch)
}

// check fails unless Epochs and Last, asked twice, return what they must.
func (w *watched) check(t *testing.T) {
	t.Helper()
	want, last := []int{}, 0
	for epoch := 1; epoch <= 64; epoch++ {
		if w.masters[epoch] != nil {
			want, last = append(want, epoch), epoch
		}
	}
	for range 2 {
		if got := w.r.Epochs(); !slices.Equal(got, want) {
			t.Fatalf("Epochs = %v; want %v", got, want)
		}
		if got := w.r.Last(); got != last {
			t.Fatalf("Last = %d; want %d", got, last)
		}
	}
}

// checkMaster fails unless the ring has the master key that it must have for an epoch, or none.
func (w *watched) checkMaster(t *testing.T, epoch int) {
	t.Helper()
	want := w.masters[epoch]
	if got := w.r.Master(epoch); !bytes.Equal(got, want) || want == nil && cap(got) != 0 {
		t.Fatalf("Master(%d) = %x; want %x", epoch, got, want)
	}
}

// checkKey fails unless the ring's Key returns what it must.
func (w *watched) checkKey(t *testing.T, purpose string, epoch int) {
	t.Helper()
	master, want, wantErr := w.masters[epoch], []byte{}, api.OK
	switch {
	case len(purpose) < 1 || len(purpose) > 16 || strings.Trim(purpose, "abcdefghijklmnopqrstuvwxyz") != "" || epoch < 1 || epoch > 64:
		wantErr = api.ErrArg
	case master == nil:
		wantErr = api.ErrEpoch
	default:
		want = wantKey(master, purpose, epoch)
	}
	if got, e := w.r.Key(purpose, epoch); !bytes.Equal(got, want) || e != wantErr || e != api.OK && cap(got) != 0 {
		t.Fatalf("Key(%q, %d) = %x, %d; want %x, %d", purpose, epoch, got, e, want, wantErr)
	}
}

// checkAll fails unless all methods that change nothing return what they must.
func (w *watched) checkAll(t *testing.T) {
	t.Helper()
	for epoch := -3; epoch <= 70; epoch++ {
		w.checkMaster(t, epoch)
		w.checkKey(t, "seal", epoch)
	}
	for _, epoch := range wrongEpochs {
		w.checkMaster(t, epoch)
	}
	w.check(t)
}

// checkKey fails unless Key returns what wantKey computes.
func checkKey(t *testing.T, master []byte, purpose string, epoch int) {
	t.Helper()
	if got, e := Key(master, purpose, epoch); !bytes.Equal(got, wantKey(master, purpose, epoch)) || e != api.OK {
		t.Errorf("Key(%x, %q, %d) = %x, %d", master, purpose, epoch, got, e)
	}
}

// checkNoKey fails unless Key returns ErrArg, and nothing else.
func checkNoKey(t *testing.T, master []byte, purpose string, epoch int) {
	t.Helper()
	if got, e := Key(master, purpose, epoch); len(got) != 0 || cap(got) != 0 || e != api.ErrArg {
		t.Errorf("Key of %d bytes for %q, %d = %x, %d", len(master), purpose, epoch, got, e)
	}
}

// checkID fails unless ID returns what wantID computes.
func checkID(t *testing.T, key []byte, kind int, text []byte) {
	t.Helper()
	if got, e := ID(key, kind, text); got != wantID(key, kind, text) || e != api.OK {
		t.Errorf("ID of kind %d and %d bytes = %x, %d", kind, len(text), got, e)
	}
}

// checkNoID fails unless ID returns ErrArg, and nothing else.
func checkNoID(t *testing.T, key []byte, kind int, text []byte) {
	t.Helper()
	if got, e := ID(key, kind, text); got != (api.ID{}) || e != api.ErrArg {
		t.Errorf("ID of kind %d and %d bytes, under %d bytes = %x, %d", kind, len(text), len(key), got, e)
	}
}

// wantKey returns a key as the chapter defines it.
func wantKey(master []byte, purpose string, epoch int) []byte {
	return tag(master, binary.BigEndian.AppendUint64(append([]byte(purpose), 0), uint64(epoch)))
}

// wantID returns an id as the chapter defines it.
func wantID(key []byte, kind int, text []byte) api.ID {
	return api.ID(tag(key, append([]byte{byte(kind)}, text...)))
}

// tag returns the tag of a message as the library computes it.
func tag(key, message []byte) []byte {
	h := hmac.New(sha256.New, key)
	h.Write(message)
	return h.Sum(nil)
}

// eachPlace calls f with a word for every length of a purpose and every place in it; f may change the byte at that place.
func eachPlace(f func(purpose []byte, at int)) {
	for n := 1; n <= 16; n++ {
		for at := range n {
			f([]byte("thequickbrownfox")[:n], at)
		}
	}
}

// someMasters returns master keys, or keys, of 32 bytes of all sorts.
func someMasters() [][]byte {
	return [][]byte{make([]byte, 32), ones(32), pattern(32), master(1), master(2)}
}

// master returns a master key that is made of a number.
func master(n int) []byte {
	sum := sha256.Sum256(binary.BigEndian.AppendUint64(nil, uint64(n)))
	return sum[:]
}

// must returns a key that there has to be.
func must(key []byte, e api.Errno) []byte {
	if len(key) != 32 || e != api.OK {
		panic(fmt.Sprintf("no key: %x, %d", key, e))
	}
	return key
}

// overwrite changes every byte of the parts.
func overwrite(parts ...[]byte) {
	for _, b := range parts {
		for i := range b {
			b[i] ^= 0xee
		}
	}
}

// unhex returns the bytes of hexadecimal digits.
func unhex(digits string) []byte {
	b, err := hex.DecodeString(digits)
	if err != nil {
		panic(err)
	}
	return b
}

// ones returns n bytes ff.
func ones(n int) []byte { return bytes.Repeat([]byte{0xff}, n) }

// pattern returns n bytes of which those that are next to one another differ.
func pattern(n int) []byte {
	b := make([]byte, n)
	for i := range b {
		b[i] = byte(i%251 + 1)
	}
	return b
}
