package store

import (
	"bytes"
	"fmt"
	"maps"
	"math"
	"math/rand/v2"
	"slices"
	"strings"
	"sync"
	"testing"

	"hypogeum/api"
)

// letters are all bytes that a name may have.
const letters = "abcdefghijklmnopqrstuvwxyz0123456789"

// rightNames are names of all sorts; some are beginnings of others.
var rightNames = []string{"a", "z", "0", "9", "aa", "a0", "0a", "00", "az", "manifest", "pack00000000000001", "keys", "key", "k",
	"abcdefghijklmnopqrstuvwxyz012345", "6789", strings.Repeat("a", 31), strings.Repeat("9", 31), strings.Repeat("z", 32), strings.Repeat("0", 32)}

// wrongNames are texts that are no names.
var wrongNames = []string{"", " ", "\x00", "A", "Z", "/", ":", "@", "[", "`", "{", "_", "-", ".", "\x7f", "\x80", "\xff",
	"Pack", "pacK", "PACK", "pa ck", " pack", "pack ", "pack\n", "pack\x00", "\x00pack", "pa\x00ck", "pack/1", "pack-1", "pack_1", "pack.1", "../pack", "päck", "é", "日本", "ａ", "ſ", "٣", "\xe1", "\xb0",
	strings.Repeat("a", 33), strings.Repeat("0", 33), strings.Repeat("a", 32) + " ", strings.Repeat("a", 31) + "A", "A" + strings.Repeat("a", 31),
	strings.Repeat("a", 64), strings.Repeat("a", 256), strings.Repeat("a", 256+5), strings.Repeat("a", 1<<16+1), strings.Repeat("pack", 100000)}

// oddKinds are kinds of choices that act like Honest: some are others in their lowest byte, or in their lowest four.
var oddKinds = []int{-1, -2, -6, -7, -255, -250, math.MinInt, math.MinInt + 1, math.MinInt + 6, -1<<32 + 1, -1<<32 + 6,
	7, 8, 9, 16, 64, 255, 256, 257, 256 + 2, 256 + 6, 1<<16 + 6, 1 << 32, 1<<32 + 1, 1<<32 + 5, 1<<32 + 6, math.MaxInt - 1, math.MaxInt}

// far are numbers that no history reaches.
var far = []int{-1, -2, -3, -255, -256, -1 << 31, -1 << 32, -1<<32 + 1, math.MinInt + 1, math.MinInt,
	100, 255, 256, 257, 1 << 16, 1 << 31, 1 << 32, 1<<32 + 1, 1 << 53, math.MaxInt - 1, math.MaxInt}

// verbs are all calls, each with right arguments, what is recorded of it, and whether only a Crash has an effect on it.
var verbs = []struct {
	what   string
	do     func(s *Store) api.Errno
	record api.Call
	steady bool
}{
	{"Put", func(s *Store) api.Errno { return s.Put("a", []byte("new")) }, api.Call{Verb: "put", Name: "a", Size: 3}, false},
	{"Get", func(s *Store) api.Errno { _, e := s.Get("a"); return e }, api.Call{Verb: "get", Name: "a"}, false},
	{"Del", func(s *Store) api.Errno { return s.Del("a") }, api.Call{Verb: "del", Name: "a"}, false},
	{"List", func(s *Store) api.Errno { _, e := s.List(); return e }, api.Call{Verb: "list"}, false},
	{"Cell", func(s *Store) api.Errno { _, e := s.Cell(); return e }, api.Call{Verb: "cell"}, true},
	{"Raise", func(s *Store) api.Errno { return s.Raise(api.Mark{Gen: 5, Stamp: 6, Used: 7}) }, api.Call{Verb: "cell"}, true},
}

// wrongCalls are calls that are neither recorded nor use up a choice, and the error of each.
var wrongCalls = []struct {
	what string
	do   func(s *Store) api.Errno
	want api.Errno
}{
	{"Put under no name", func(s *Store) api.Errno { return s.Put("", []byte("new")) }, api.ErrArg},
	{"Put under a wrong name", func(s *Store) api.Errno { return s.Put("A", []byte("new")) }, api.ErrArg},
	{"Put under a long name", func(s *Store) api.Errno { return s.Put(strings.Repeat("a", 33), []byte("new")) }, api.ErrArg},
	{"Put of too much under a wrong name", func(s *Store) api.Errno { return s.Put("a ", make([]byte, 65537)) }, api.ErrArg},
	{"Put of too much", func(s *Store) api.Errno { return s.Put("a", make([]byte, 65537)) }, api.ErrLong},
	{"Put of much too much", func(s *Store) api.Errno { return s.Put("b", make([]byte, 1<<17)) }, api.ErrLong},
	{"Get of no name", func(s *Store) api.Errno { _, e := s.Get(""); return e }, api.ErrArg},
	{"Get of a wrong name", func(s *Store) api.Errno { _, e := s.Get("a\x00"); return e }, api.ErrArg},
	{"Get of a long name", func(s *Store) api.Errno { _, e := s.Get(strings.Repeat("0", 33)); return e }, api.ErrArg},
	{"Del of no name", func(s *Store) api.Errno { return s.Del("") }, api.ErrArg},
	{"Del of a wrong name", func(s *Store) api.Errno { return s.Del("é") }, api.ErrArg},
	{"Del of a long name", func(s *Store) api.Errno { return s.Del(strings.Repeat("z", 33)) }, api.ErrArg},
}

// P16.1: New

func TestNew(t *testing.T) {
	s := New()
	if s.Dead() || len(s.Calls()) != 0 {
		t.Errorf("a new store: dead %t, calls %v", s.Dead(), s.Calls())
	}
	checkCell(t, s, api.Mark{})
	checkList(t, s)
	for _, name := range rightNames {
		checkGone(t, s, name)
	}
	if e := s.Raise(api.Mark{}); e != api.OK {
		t.Errorf("Raise to the zero Mark of a new store = %d", e)
	}
}

func TestNewStoresAreIndependent(t *testing.T) {
	a, b := New(), New()
	a.Put("a", []byte("one"))
	a.Raise(api.Mark{Gen: 1, Stamp: 2, Used: 3})
	a.Script(api.Choice{Kind: api.Crash}, api.Choice{Kind: api.Refuse})
	a.Cell()
	if b.Dead() || len(b.Calls()) != 0 {
		t.Errorf("another store: dead %t, calls %v", b.Dead(), b.Calls())
	}
	checkGone(t, b, "a")
	checkCell(t, b, api.Mark{})
	checkList(t, b)
	if !a.Dead() || len(a.Calls()) != 3 {
		t.Errorf("the store: dead %t, calls %v", a.Dead(), a.Calls())
	}
}

// P16.1: Named

func TestNamed(t *testing.T) {
	for _, name := range rightNames {
		checkNamed(t, name, true)
	}
	for _, name := range wrongNames {
		checkNamed(t, name, false)
	}
}

func TestNamedForEveryByteAtEveryPlace(t *testing.T) {
	for n := 1; n <= 32; n++ {
		name := []byte(strings.Repeat("k", n))
		for at := range name {
			for c := range 256 {
				name[at] = byte(c)
				checkNamed(t, string(name), strings.IndexByte(letters, byte(c)) >= 0)
			}
			name[at] = '5'
		}
	}
}

func TestNamedForEveryLength(t *testing.T) {
	for n := range 700 {
		for _, letter := range []string{"a", "m", "z", "0", "5", "9"} {
			checkNamed(t, strings.Repeat(letter, n), n >= 1 && n <= 32)
		}
	}
}

func TestNamesThatCallsTake(t *testing.T) {
	for c := range 256 {
		name := string([]byte{byte(c)})
		checkNamesTaken(t, name, strings.IndexByte(letters, byte(c)) >= 0)
	}
	for _, name := range rightNames {
		checkNamesTaken(t, name, true)
	}
	for _, name := range wrongNames {
		checkNamesTaken(t, name, false)
	}
}

// P16.1: the queue of choices

func TestChoicesAreForTheNextCallsInOrder(t *testing.T) {
	s := withObjects()
	s.Script(
		api.Choice{Kind: api.Refuse},
		api.Choice{Kind: api.Honest},
		api.Choice{Kind: api.Lose},
		api.Choice{Kind: api.Older, N: 1},
		api.Choice{Kind: api.Other, Name: "b"},
		api.Choice{Kind: api.Forge, Bytes: []byte("x")})
	checkGet(t, s, "a", "", api.ErrStore)
	checkGet(t, s, "a", "two", api.OK)
	checkGet(t, s, "a", "", api.ErrGone)
	checkGet(t, s, "a", "one", api.OK)
	checkGet(t, s, "a", "other", api.OK)
	checkGet(t, s, "a", "x", api.OK)
	for range 3 {
		checkGet(t, s, "a", "two", api.OK)
	}
}

func TestEveryCallUsesUpOneChoice(t *testing.T) {
	for _, v := range verbs {
		for _, kind := range allKinds() {
			if kind == api.Crash {
				continue
			}
			s := withObjects()
			s.Script(api.Choice{Kind: kind}, api.Choice{Kind: api.Forge, Bytes: []byte("second")}, api.Choice{Kind: api.Forge, Bytes: []byte("third")})
			v.do(s)
			checkGet(t, s, "b", "second", api.OK)
			v.do(s)
			checkGet(t, s, "b", "other", api.OK)
		}
	}
}

func TestCallsThatAreNoneUseUpNoChoice(t *testing.T) {
	for _, c := range wrongCalls {
		for _, kind := range allKinds() {
			s := withObjects()
			before := s.Calls()
			s.Script(api.Choice{Kind: kind}, api.Choice{Kind: api.Crash})
			for range 3 {
				if e := c.do(s); e != c.want {
					t.Errorf("%s, with choice %d = %d; want %d", c.what, kind, e, c.want)
				}
			}
			if s.Dead() || !slices.Equal(s.Calls(), before) {
				t.Errorf("after %s, with choice %d: dead %t, calls %v", c.what, kind, s.Dead(), s.Calls())
			}
			s.Cell()
			if s.Dead() != (kind == api.Crash) {
				t.Errorf("after %s, the next call has not the choice %d", c.what, kind)
			}
		}
	}
}

func TestWhatIsNoCallUsesUpNoChoice(t *testing.T) {
	s := withObjects()
	s.Script(api.Choice{Kind: api.Forge, Bytes: []byte("x")}, api.Choice{Kind: api.Refuse})
	n := len(s.Calls())
	s.Dead()
	s.Revive()
	s.Copy().Get("a")
	Named("a")
	if len(s.Calls()) != n {
		t.Errorf("calls are recorded that are none: %v", s.Calls())
	}
	checkGet(t, s, "a", "x", api.OK)
	checkGet(t, s, "a", "", api.ErrStore)
	checkGet(t, s, "a", "two", api.OK)
}

func TestScriptReplacesTheQueue(t *testing.T) {
	s := withObjects()
	s.Script(api.Choice{Kind: api.Refuse}, api.Choice{Kind: api.Refuse}, api.Choice{Kind: api.Crash})
	s.Script(api.Choice{Kind: api.Lose})
	checkGet(t, s, "a", "", api.ErrGone)
	checkGet(t, s, "a", "two", api.OK)
	s.Script(api.Choice{Kind: api.Refuse}, api.Choice{Kind: api.Refuse}, api.Choice{Kind: api.Crash})
	checkGet(t, s, "a", "", api.ErrStore)
	s.Script(api.Choice{Kind: api.Lose}, api.Choice{}, api.Choice{Kind: api.Older, N: 1})
	checkGet(t, s, "a", "", api.ErrGone)
	checkGet(t, s, "a", "two", api.OK)
	checkGet(t, s, "a", "one", api.OK)
	checkGet(t, s, "a", "two", api.OK)
}

func TestScriptOfNothingEmptiesTheQueue(t *testing.T) {
	for _, none := range [][]api.Choice{nil, {}} {
		s := withObjects()
		s.Script(none...)
		checkGet(t, s, "a", "two", api.OK)
		s.Script(api.Choice{Kind: api.Refuse}, api.Choice{Kind: api.Crash})
		s.Script(none...)
		checkGet(t, s, "a", "two", api.OK)
		s.Script(api.Choice{Kind: api.Refuse}, api.Choice{Kind: api.Crash})
		s.Script()
		checkGet(t, s, "a", "two", api.OK)
	}
}

func TestManyChoices(t *testing.T) {
	s := withObjects()
	var l []api.Choice
	for i := range 2000 {
		l = append(l, api.Choice{Kind: api.Forge, Bytes: []byte(fmt.Sprint(i))})
	}
	s.Script(l...)
	for i := range 2000 {
		checkGet(t, s, "a", fmt.Sprint(i), api.OK)
	}
	checkGet(t, s, "a", "two", api.OK)
}

func TestScriptOfADeadStore(t *testing.T) {
	s := withObjects()
	s.Script(api.Choice{Kind: api.Crash}, api.Choice{Kind: api.Refuse})
	s.Cell()
	s.Script(api.Choice{Kind: api.Older, N: 1})
	if !s.Dead() {
		t.Error("Script revives")
	}
	s.Revive()
	checkGet(t, s, "a", "one", api.OK)
	checkGet(t, s, "a", "two", api.OK)
}

// P16.1: what is recorded

func TestEveryCallIsRecorded(t *testing.T) {
	for _, kind := range allKinds() {
		for _, v := range verbs {
			s := withObjects()
			before := s.Calls()
			s.Script(api.Choice{Kind: kind, Name: "b", Bytes: []byte("forged")})
			v.do(s)
			if got, want := s.Calls(), append(before, v.record); !slices.Equal(got, want) {
				t.Errorf("the calls up to %s with choice %d = %v; want %v", v.what, kind, got, want)
			}
		}
	}
}

func TestRecordsAreInOrder(t *testing.T) {
	s := New()
	var want []api.Call
	for i := range 200 {
		v := verbs[(i*i+i/7)%len(verbs)]
		v.do(s)
		want = append(want, v.record)
		if got := s.Calls(); !slices.Equal(got, want) {
			t.Fatalf("after %d calls, Calls() = %v; want %v", i+1, got, want)
		}
	}
}

func TestRecordsHaveTheNameAndTheSize(t *testing.T) {
	for _, name := range rightNames {
		for _, n := range []int{0, 1, 2, 255, 256, 257, 65535, 65536} {
			s := New()
			s.Put(name, make([]byte, n))
			s.Get(name)
			s.Del(name)
			want := []api.Call{{Verb: "put", Name: name, Size: n}, {Verb: "get", Name: name}, {Verb: "del", Name: name}}
			if got := s.Calls(); !slices.Equal(got, want) {
				t.Errorf("Calls() = %v; want %v", got, want)
			}
		}
	}
	s := New()
	s.Put("a", nil)
	if got := s.Calls(); !slices.Equal(got, []api.Call{{Verb: "put", Name: "a"}}) {
		t.Errorf("the calls up to Put of nil = %v", got)
	}
}

func TestCallsThatFailAreRecorded(t *testing.T) {
	s := New()
	s.Get("a")
	s.Del("b")
	s.Raise(api.Mark{Gen: -1})
	s.Script(api.Choice{Kind: api.Forge, Bytes: make([]byte, 65537)})
	s.Get("c")
	want := []api.Call{{Verb: "get", Name: "a"}, {Verb: "del", Name: "b"}, {Verb: "cell"}, {Verb: "get", Name: "c"}}
	if got := s.Calls(); !slices.Equal(got, want) {
		t.Errorf("Calls() = %v; want %v", got, want)
	}
}

// P16.1: Crash, Dead and Revive

func TestCrashInEveryCall(t *testing.T) {
	for _, v := range verbs {
		s := withObjects()
		before := s.Calls()
		s.Script(api.Choice{Kind: api.Crash, N: 1, Name: "b", Bytes: []byte("x")}, api.Choice{Kind: api.Forge, Bytes: []byte("next")})
		if e := v.do(s); e != api.ErrCrash || !s.Dead() {
			t.Errorf("%s, with Crash = %d, dead %t", v.what, e, s.Dead())
		}
		records := append(before, v.record)
		for range 2 {
			checkDead(t, s)
		}
		if got := s.Calls(); !slices.Equal(got, records) {
			t.Errorf("the calls of a store that crashed in %s = %v; want %v", v.what, got, records)
		}
		s.Revive()
		if s.Dead() || !slices.Equal(s.Calls(), records) {
			t.Errorf("a store that crashed in %s and is revived: dead %t, calls %v", v.what, s.Dead(), s.Calls())
		}
		// The choice that was left is for the first call after Revive.
		checkGet(t, s, "a", "next", api.OK)
		checkAsWithObjects(t, s)
	}
}

func TestCrashHasNoOtherResults(t *testing.T) {
	s := withObjects()
	for range 2 {
		s.Script(api.Choice{Kind: api.Crash, Bytes: []byte("x")})
		if b, e := s.Get("a"); len(b) != 0 || cap(b) != 0 || e != api.ErrCrash {
			t.Errorf("Get with Crash = %q, %d", b, e)
		}
		s.Revive()
		s.Script(api.Choice{Kind: api.Crash})
		if l, e := s.List(); len(l) != 0 || cap(l) != 0 || e != api.ErrCrash {
			t.Errorf("List with Crash = %q, %d", l, e)
		}
		s.Revive()
		s.Script(api.Choice{Kind: api.Crash})
		if m, e := s.Cell(); m != (api.Mark{}) || e != api.ErrCrash {
			t.Errorf("Cell with Crash = %v, %d", m, e)
		}
		checkDead(t, s)
		s.Revive()
	}
}

func TestCallsOfADeadStoreUseUpNoChoice(t *testing.T) {
	for _, v := range verbs {
		s := withObjects()
		s.Script(api.Choice{Kind: api.Crash}, api.Choice{Kind: api.Refuse}, api.Choice{Kind: api.Lose}, api.Choice{Kind: api.Older, N: 1})
		s.Cell()
		n := len(s.Calls())
		for range 5 {
			if e := v.do(s); e != api.ErrCrash {
				t.Errorf("%s of a dead store = %d", v.what, e)
			}
		}
		if len(s.Calls()) != n {
			t.Errorf("%s of a dead store is recorded: %v", v.what, s.Calls())
		}
		s.Revive()
		checkGet(t, s, "a", "", api.ErrStore)
		checkGet(t, s, "a", "", api.ErrGone)
		checkGet(t, s, "a", "one", api.OK)
		checkGet(t, s, "a", "two", api.OK)
	}
}

func TestErrArgAndErrLongAreAheadOfErrCrash(t *testing.T) {
	for _, c := range wrongCalls {
		s := withObjects()
		s.Script(api.Choice{Kind: api.Crash}, api.Choice{Kind: api.Crash})
		if e := c.do(s); e != c.want || s.Dead() {
			t.Errorf("%s, with Crash = %d, dead %t; want %d", c.what, e, s.Dead(), c.want)
		}
		s.Cell()
		n := len(s.Calls())
		if e := c.do(s); e != c.want || !s.Dead() || len(s.Calls()) != n {
			t.Errorf("%s, dead = %d, dead %t, calls %v; want %d", c.what, e, s.Dead(), s.Calls(), c.want)
		}
		s.Revive()
		if e := c.do(s); e != c.want || s.Dead() {
			t.Errorf("%s, revived = %d, dead %t; want %d", c.what, e, s.Dead(), c.want)
		}
		// The second Crash is still there.
		s.Cell()
		if !s.Dead() {
			t.Errorf("%s used up a choice", c.what)
		}
	}
}

func TestCrashIsAheadOfErrOld(t *testing.T) {
	s := withObjects()
	s.Script(api.Choice{Kind: api.Crash})
	for range 2 {
		if e := s.Raise(api.Mark{Gen: -1, Used: -1}); e != api.ErrCrash {
			t.Errorf("Raise below the cell, with Crash or dead = %d", e)
		}
	}
}

func TestCrashInAQueue(t *testing.T) {
	s := withObjects()
	s.Script(api.Choice{}, api.Choice{Kind: api.Crash}, api.Choice{Kind: api.Crash}, api.Choice{}, api.Choice{Kind: api.Crash})
	checkGet(t, s, "a", "two", api.OK)
	checkGet(t, s, "a", "", api.ErrCrash)
	checkGet(t, s, "a", "", api.ErrCrash)
	s.Revive()
	checkGet(t, s, "a", "", api.ErrCrash)
	s.Revive()
	checkGet(t, s, "a", "two", api.OK)
	checkGet(t, s, "a", "", api.ErrCrash)
	s.Revive()
	checkAsWithObjects(t, s)
}

func TestReviveOfAStoreThatLives(t *testing.T) {
	s := withObjects()
	s.Script(api.Choice{Kind: api.Older, N: 1}, api.Choice{Kind: api.Crash})
	s.Revive()
	if s.Dead() {
		t.Error("Revive kills")
	}
	checkGet(t, s, "a", "one", api.OK)
	s.Revive()
	checkGet(t, s, "a", "", api.ErrCrash)
	s.Revive()
	s.Revive()
	if s.Dead() {
		t.Error("a second Revive kills")
	}
	checkAsWithObjects(t, s)
}

func TestOnlyCrashKills(t *testing.T) {
	for _, v := range verbs {
		for _, kind := range allKinds() {
			s := withObjects()
			s.Script(api.Choice{Kind: kind})
			v.do(s)
			if s.Dead() != (kind == api.Crash) {
				t.Errorf("after %s with choice %d: dead %t", v.what, kind, s.Dead())
			}
		}
	}
}

// P16.2: Put and Del

func TestPutOfEachSize(t *testing.T) {
	for _, n := range []int{0, 1, 2, 31, 32, 33, 255, 256, 4096, 65534, 65535, 65536} {
		s := New()
		checkPut(t, s, "a", source(n, 1), api.OK)
		checkGet(t, s, "a", string(source(n, 1)), api.OK)
		checkList(t, s, "a")
	}
	for _, n := range []int{65537, 65538, 1 << 17, 1<<17 + 1, 1 << 20} {
		s := withObjects()
		checkPut(t, s, "a", source(n, 1), api.ErrLong)
		checkPut(t, s, "c", source(n, 1), api.ErrLong)
		checkAsWithObjects(t, s)
	}
}

func TestPutOfNothingIsAnObject(t *testing.T) {
	for _, b := range [][]byte{nil, {}, source(9, 1)[:0], source(9, 1)[9:]} {
		s := withObjects()
		checkPut(t, s, "e", b, api.OK)
		checkGet(t, s, "e", "", api.OK)
		checkList(t, s, "a", "b", "e")
		checkPut(t, s, "a", b, api.OK)
		checkGet(t, s, "a", "", api.OK)
		checkList(t, s, "a", "b", "e")
		checkOlder(t, s, "a", 1, "two", api.OK)
		checkPut(t, s, "a", []byte("three"), api.OK)
		checkOlder(t, s, "a", 1, "", api.OK)
		if e := s.Del("e"); e != api.OK {
			t.Errorf("Del of an empty object = %d", e)
		}
		checkGone(t, s, "e")
	}
}

func TestPutOfEachName(t *testing.T) {
	s := New()
	for i, name := range rightNames {
		checkPut(t, s, name, []byte{byte(i)}, api.OK)
	}
	for i, name := range rightNames {
		checkGet(t, s, name, string([]byte{byte(i)}), api.OK)
	}
	sorted := slices.Sorted(slices.Values(rightNames))
	checkList(t, s, sorted...)
	for i, name := range rightNames {
		if e := s.Del(name); e != api.OK {
			t.Errorf("Del(%q) = %d", name, e)
		}
		checkGone(t, s, name)
		for j, left := range rightNames[i+1:] {
			checkGet(t, s, left, string([]byte{byte(i + 1 + j)}), api.OK)
		}
	}
	checkList(t, s)
}

func TestPutWithEachChoice(t *testing.T) {
	for _, b := range [][]byte{nil, []byte("new"), source(65536, 2)} {
		for _, kind := range allKinds() {
			for _, name := range []string{"a", "c", "gone"} {
				s := withObjects()
				s.Script(api.Choice{Kind: kind, N: 1, Name: "b", Bytes: []byte("forged")})
				e := s.Put(name, b)
				switch kind {
				case api.Refuse:
					checkErrno(t, "a refused Put", e, api.ErrStore)
					checkAsWithObjects(t, s)
				case api.Lose:
					checkErrno(t, "a lost Put", e, api.OK)
					checkAsWithObjects(t, s)
				case api.Crash:
					checkErrno(t, "a Put that crashes", e, api.ErrCrash)
					s.Revive()
					checkAsWithObjects(t, s)
				default:
					checkErrno(t, fmt.Sprintf("a Put with choice %d", kind), e, api.OK)
					checkGet(t, s, name, string(b), api.OK)
					checkGet(t, s, "b", "other", api.OK)
					checkOlder(t, s, "a", putsSince(name), "one", api.OK)
				}
			}
		}
	}
}

func TestDelWithEachChoice(t *testing.T) {
	for _, kind := range allKinds() {
		for _, name := range []string{"a", "c", "gone"} {
			s := withObjects()
			s.Script(api.Choice{Kind: kind, N: 1, Name: "b", Bytes: []byte("forged")})
			e := s.Del(name)
			switch kind {
			case api.Refuse:
				checkErrno(t, "a refused Del", e, api.ErrStore)
				checkAsWithObjects(t, s)
			case api.Lose:
				checkErrno(t, "a lost Del", e, api.OK)
				checkAsWithObjects(t, s)
			case api.Crash:
				checkErrno(t, "a Del that crashes", e, api.ErrCrash)
				s.Revive()
				checkAsWithObjects(t, s)
			default:
				checkErrno(t, fmt.Sprintf("a Del with choice %d", kind), e, api.OK)
				checkGone(t, s, name)
				checkGet(t, s, "b", "other", api.OK)
				checkOlder(t, s, "a", putsSince(name), "one", api.OK)
			}
		}
	}
}

func TestDelOfWhatIsNotThere(t *testing.T) {
	s := New()
	for range 3 {
		if e := s.Del("a"); e != api.OK {
			t.Errorf("Del of nothing = %d", e)
		}
		checkGone(t, s, "a")
		checkList(t, s)
	}
	checkPut(t, s, "a", []byte("one"), api.OK)
	for range 3 {
		if e := s.Del("a"); e != api.OK {
			t.Errorf("Del = %d", e)
		}
		checkGone(t, s, "a")
		checkList(t, s)
	}
	// Each of the last three counts as a put of nothing.
	for n, want := range []string{"", "", "", "one", "", "", "", ""} {
		checkOlder(t, s, "a", n, want, okIf(want == "one"))
	}
}

func TestPutAfterDel(t *testing.T) {
	s := withObjects()
	s.Del("a")
	checkPut(t, s, "a", []byte("three"), api.OK)
	checkGet(t, s, "a", "three", api.OK)
	checkList(t, s, "a", "b")
	for n, want := range []string{"three", "", "two", "one", "", ""} {
		checkOlder(t, s, "a", n, want, okIf(want != ""))
	}
}

func TestErrorsOfPutInOrder(t *testing.T) {
	for _, name := range wrongNames {
		for _, n := range []int{0, 1, 65536, 65537} {
			s := withObjects()
			s.Script(api.Choice{Kind: api.Refuse})
			checkPut(t, s, name, make([]byte, n), api.ErrArg)
			checkPut(t, s, "a", make([]byte, 65537), api.ErrLong)
			checkPut(t, s, "a", make([]byte, 65536), api.ErrStore)
			checkAsWithObjects(t, s)
		}
	}
}

// P16.3: Get

func TestExample(t *testing.T) {
	s := New()
	checkPut(t, s, "a", []byte{1}, api.OK)
	checkPut(t, s, "a", []byte{2}, api.OK)
	s.Script(api.Choice{Kind: api.Older, N: 1})
	checkGet(t, s, "a", "\x01", api.OK)
	s.Script(api.Choice{Kind: api.Crash})
	for range 3 {
		checkGet(t, s, "a", "", api.ErrCrash)
	}
	s.Revive()
	checkGet(t, s, "a", "\x02", api.OK)
}

func TestGetWithEachChoice(t *testing.T) {
	for _, kind := range allKinds() {
		s := withObjects()
		for _, c := range []struct{ name, honest, older string }{{"a", "two", "one"}, {"b", "other", ""}, {"c", "", ""}, {"gone", "", "was"}} {
			s.Script(api.Choice{Kind: kind, N: 1, Name: "b", Bytes: []byte("forged")})
			want, e := c.honest, api.OK
			switch kind {
			case api.Refuse:
				want, e = "", api.ErrStore
			case api.Lose:
				want = ""
			case api.Older:
				want = c.older
			case api.Other:
				want = "other"
			case api.Forge:
				want = "forged"
			case api.Crash:
				want, e = "", api.ErrCrash
			}
			if want == "" && e == api.OK {
				e = api.ErrGone
			}
			checkGet(t, s, c.name, want, e)
			s.Revive()
			checkAsWithObjects(t, s)
		}
	}
}

func TestOlder(t *testing.T) {
	for puts := range 40 {
		s := New()
		for i := range puts {
			checkPut(t, s, "b", []byte("other"), api.OK)
			checkPut(t, s, "a", []byte(fmt.Sprint(i)), api.OK)
			checkPut(t, s, "ab", source(i, 3), api.OK)
		}
		for n := -3; n < puts+4; n++ {
			if n >= 0 && n < puts {
				checkOlder(t, s, "a", n, fmt.Sprint(puts-1-n), api.OK)
				checkOlder(t, s, "b", n, "other", api.OK)
			} else {
				checkOlder(t, s, "a", n, "", api.ErrGone)
				checkOlder(t, s, "b", n, "", api.ErrGone)
			}
		}
		for _, n := range far {
			checkOlder(t, s, "a", n, "", api.ErrGone)
			checkOlder(t, s, "c", n, "", api.ErrGone)
		}
		checkOlder(t, s, "c", 0, "", api.ErrGone)
	}
}

func TestOlderCountsWhatWasDoneAlone(t *testing.T) {
	s := New()
	checkPut(t, s, "a", []byte("one"), api.OK)
	s.Script(api.Choice{Kind: api.Lose}, api.Choice{Kind: api.Refuse}, api.Choice{Kind: api.Lose}, api.Choice{Kind: api.Refuse}, api.Choice{Kind: api.Crash})
	s.Put("a", []byte("lost"))
	s.Put("a", []byte("refused"))
	s.Del("a")
	s.Del("a")
	s.Put("a", []byte("crashed"))
	s.Put("a", []byte("dead"))
	s.Revive()
	s.Put("a", make([]byte, 65537))
	s.Get("a")
	checkOlder(t, s, "a", 0, "one", api.OK)
	checkOlder(t, s, "a", 1, "", api.ErrGone)
	checkPut(t, s, "a", []byte("one"), api.OK)
	checkOlder(t, s, "a", 1, "one", api.OK)
	checkOlder(t, s, "a", 2, "", api.ErrGone)
}

func TestOlderWithDelBetween(t *testing.T) {
	s := New()
	s.Del("a")
	checkPut(t, s, "a", []byte("one"), api.OK)
	s.Del("a")
	s.Del("a")
	checkPut(t, s, "a", []byte("two"), api.OK)
	s.Del("b")
	s.Script(api.Choice{Kind: api.Lose})
	s.Del("a")
	for n, want := range []string{"two", "", "", "one", "", "", ""} {
		checkOlder(t, s, "a", n, want, okIf(want != ""))
	}
	checkOlder(t, s, "b", 0, "", api.ErrGone)
	checkOlder(t, s, "b", 1, "", api.ErrGone)
}

func TestOther(t *testing.T) {
	s := withObjects()
	for _, c := range []struct {
		name, other, want string
		e                 api.Errno
	}{
		{"a", "b", "other", api.OK},
		{"b", "a", "two", api.OK},
		{"a", "a", "two", api.OK},
		{"c", "a", "two", api.OK},
		{"gone", "b", "other", api.OK},
		{"a", "c", "", api.ErrGone},
		{"a", "gone", "", api.ErrGone},
		{"a", "", "", api.ErrGone},
		{"c", "c", "", api.ErrGone},
	} {
		s.Script(api.Choice{Kind: api.Other, Name: c.other, N: 1, Bytes: []byte("forged")})
		checkGet(t, s, c.name, c.want, c.e)
	}
	for _, other := range wrongNames {
		s.Script(api.Choice{Kind: api.Other, Name: other})
		checkGet(t, s, "a", "", api.ErrGone)
	}
	checkAsWithObjects(t, s)
}

func TestOtherIsWhatIsStoredThen(t *testing.T) {
	s := withObjects()
	s.Script(api.Choice{}, api.Choice{Kind: api.Other, Name: "b"}, api.Choice{}, api.Choice{Kind: api.Other, Name: "b"})
	checkPut(t, s, "b", []byte("third"), api.OK)
	checkGet(t, s, "a", "third", api.OK)
	s.Del("b")
	checkGet(t, s, "a", "", api.ErrGone)
}

func TestForge(t *testing.T) {
	for _, name := range []string{"a", "b", "c", "gone"} {
		s := withObjects()
		for _, b := range [][]byte{nil, {}, {0}, []byte("x"), []byte("two"), source(65535, 1), source(65536, 2)} {
			s.Script(api.Choice{Kind: api.Forge, N: 1, Name: "b", Bytes: b})
			checkGet(t, s, name, string(b), api.OK)
		}
		for _, n := range []int{65537, 65538, 1 << 17, 1 << 20} {
			s.Script(api.Choice{Kind: api.Forge, Bytes: make([]byte, n)})
			checkGet(t, s, name, "", api.ErrBig)
		}
		checkAsWithObjects(t, s)
	}
}

func TestErrorsOfGetInOrder(t *testing.T) {
	for _, kind := range allKinds() {
		for _, name := range wrongNames {
			s := withObjects()
			s.Script(api.Choice{Kind: kind, Name: "a", Bytes: make([]byte, 65537)})
			checkGet(t, s, name, "", api.ErrArg)
		}
	}
	s := New()
	s.Script(api.Choice{Kind: api.Refuse, Bytes: make([]byte, 65537)})
	checkGet(t, s, "a", "", api.ErrStore)
}

// P16.3: List

func TestListIsInIncreasingOrder(t *testing.T) {
	r := rand.New(rand.NewPCG(16, 3))
	for n := range 60 {
		s := New()
		names := map[string]int{}
		for range n {
			name := someName(r)
			names[name]++
			checkPut(t, s, name, source(r.IntN(3), 1), api.OK)
		}
		checkList(t, s, slices.Sorted(maps.Keys(names))...)
		for name := range names {
			if r.IntN(2) == 0 {
				delete(names, name)
				s.Del(name)
			}
		}
		checkList(t, s, slices.Sorted(maps.Keys(names))...)
	}
}

func TestListOfNamesThatAreBeginnings(t *testing.T) {
	s := New()
	for _, name := range []string{"ab", "b", "a0", "aa", "a", "0", "aaa", "9z", "09", "z"} {
		checkPut(t, s, name, nil, api.OK)
	}
	checkList(t, s, "0", "09", "9z", "a", "a0", "aa", "aaa", "ab", "b", "z")
}

func TestListOfOne(t *testing.T) {
	for _, name := range rightNames {
		s := New()
		checkPut(t, s, name, []byte("x"), api.OK)
		checkPut(t, s, name, []byte("y"), api.OK)
		checkList(t, s, name)
	}
}

func TestListWithEachChoice(t *testing.T) {
	for _, kind := range allKinds() {
		s := withObjects()
		s.Script(api.Choice{Kind: kind, N: 1, Name: "b", Bytes: []byte("forged")})
		got, e := s.List()
		want, wantE := []string{"a", "b"}, api.OK
		switch kind {
		case api.Refuse:
			want, wantE = nil, api.ErrStore
		case api.Lose:
			want = nil
		case api.Crash:
			want, wantE = nil, api.ErrCrash
		}
		if !slices.Equal(got, want) || e != wantE {
			t.Errorf("List() with choice %d = %q, %d; want %q, %d", kind, got, e, want, wantE)
		}
		s.Revive()
		checkAsWithObjects(t, s)
	}
}

// P16.4: Cell and Raise

func TestRaise(t *testing.T) {
	cell := api.Mark{Gen: 5, Stamp: 6, Used: 7}
	for gen := 3; gen <= 7; gen++ {
		for used := 5; used <= 9; used++ {
			for _, stamp := range []int{math.MinInt, -1, 0, 5, 6, 7, math.MaxInt} {
				s := New()
				checkRaise(t, s, cell, api.OK)
				m := api.Mark{Gen: gen, Stamp: stamp, Used: used}
				if gen < 5 || used < 7 {
					checkRaise(t, s, m, api.ErrOld)
					checkCell(t, s, cell)
				} else {
					checkRaise(t, s, m, api.OK)
					checkCell(t, s, m)
				}
			}
		}
	}
}

func TestRaiseToTheGreatestAndBelowTheLeast(t *testing.T) {
	least, most := math.MinInt, math.MaxInt
	for _, m := range []api.Mark{{Gen: -1}, {Used: -1}, {Gen: -1, Used: -1}, {Gen: least}, {Used: least}, {Gen: least, Stamp: least, Used: least}, {Gen: least, Used: most}, {Gen: most, Used: least}, {Gen: most, Stamp: most, Used: -1}} {
		s := New()
		checkRaise(t, s, m, api.ErrOld)
		checkCell(t, s, api.Mark{})
	}
	for _, m := range []api.Mark{{Gen: most}, {Used: most}, {Stamp: least}, {Stamp: most}, {Gen: most, Stamp: most, Used: most}} {
		s := New()
		checkRaise(t, s, m, api.OK)
		checkRaise(t, s, m, api.OK)
		checkCell(t, s, m)
		for _, n := range []api.Mark{{Gen: m.Gen - 1, Stamp: most, Used: m.Used}, {Gen: m.Gen, Stamp: most, Used: m.Used - 1}, {Gen: least, Used: most}, {Gen: most, Used: least}} {
			checkRaise(t, s, n, api.ErrOld)
		}
		checkCell(t, s, m)
	}
}

func TestCellAndRaiseWithEachChoice(t *testing.T) {
	for _, kind := range allKinds() {
		if kind == api.Crash {
			continue
		}
		s := withObjects()
		choice := api.Choice{Kind: kind, N: 1, Name: "b", Bytes: make([]byte, 65537)}
		s.Script(choice, choice, choice, choice)
		checkCell(t, s, api.Mark{Gen: 1, Stamp: 2, Used: 3})
		checkRaise(t, s, api.Mark{Gen: 1, Stamp: 1, Used: 4}, api.OK)
		checkCell(t, s, api.Mark{Gen: 1, Stamp: 1, Used: 4})
		checkRaise(t, s, api.Mark{Gen: 9, Stamp: 9, Used: 3}, api.ErrOld)
		checkCell(t, s, api.Mark{Gen: 1, Stamp: 1, Used: 4})
	}
}

func TestTheCellAndObjectsAreIndependent(t *testing.T) {
	s := withObjects()
	checkRaise(t, s, api.Mark{Gen: 8, Stamp: 8, Used: 8}, api.OK)
	checkGet(t, s, "a", "two", api.OK)
	s.Del("a")
	s.Del("b")
	checkCell(t, s, api.Mark{Gen: 8, Stamp: 8, Used: 8})
	s.Script(api.Choice{Kind: api.Crash})
	s.Del("b")
	s.Revive()
	checkCell(t, s, api.Mark{Gen: 8, Stamp: 8, Used: 8})
}

// P16.4: Copy

func TestCopiesAreIndependent(t *testing.T) {
	for _, way := range ways {
		for _, dead := range []bool{false, true} {
			for _, first := range []bool{false, true} {
				w := watchWithAll(t, dead)
				c := way.copy(w)
				one, two := w, c
				if first {
					one, two = c, w
				}
				one.everything(t)
				two.check(t)
				two.everything(t)
				one.check(t)
				one.everything(t)
				two.everything(t)
			}
		}
	}
}

func TestCopyIsAsTheStoreIs(t *testing.T) {
	for _, way := range ways {
		for _, dead := range []bool{false, true} {
			w := watchWithAll(t, dead)
			c := way.copy(w)
			if c.s == w.s {
				t.Error("a copy is the store itself")
			}
			c.check(t)
			c.everything(t)
			w.check(t)
			w.everything(t)
		}
	}
}

func TestCopyOfANewStore(t *testing.T) {
	for _, way := range ways {
		w := watch()
		c := way.copy(w)
		w.put(t, "a", []byte("one"))
		c.check(t)
		c.get(t, "a")
		c.put(t, "a", []byte("two"))
		c.put(t, "b", []byte("two"))
		w.get(t, "a")
		w.get(t, "b")
		w.list(t)
		c.list(t)
	}
}

func TestCopiesOfCopies(t *testing.T) {
	r := rand.New(rand.NewPCG(16, 4))
	for _, way := range ways {
		all := []*watched{watch()}
		for range 400 {
			w := all[r.IntN(len(all))]
			if len(all) < 12 && r.IntN(10) == 0 {
				all = append(all, way.copy(w))
			}
			w.some(t, r)
		}
		for _, w := range all {
			w.check(t)
			w.everything(t)
		}
	}
}

func TestCopiesAtTheSameTime(t *testing.T) {
	w := watchWithAll(t, false)
	var all sync.WaitGroup
	for range 8 {
		c := w.twin(w.s.Copy())
		if c.s.past == w.s.past {
			t.Fatal("a copy writes to what the store reads")
		}
		all.Go(func() {
			for range 60 {
				c.everything(t)
			}
		})
	}
	all.Wait()
	w.check(t)
	w.everything(t)
}

// P16.4: a nil Store

func TestNilStore(t *testing.T) {
	var s *Store
	for _, v := range verbs {
		if e := v.do(s); e != api.ErrArg {
			t.Errorf("%s of a nil store = %d", v.what, e)
		}
	}
	for _, c := range wrongCalls {
		if e := c.do(s); e != api.ErrArg {
			t.Errorf("%s, of a nil store = %d", c.what, e)
		}
	}
	if b, e := s.Get("a"); len(b) != 0 || e != api.ErrArg {
		t.Errorf("Get of a nil store = %q, %d", b, e)
	}
	if l, e := s.List(); len(l) != 0 || e != api.ErrArg {
		t.Errorf("List of a nil store = %q, %d", l, e)
	}
	if m, e := s.Cell(); m != (api.Mark{}) || e != api.ErrArg {
		t.Errorf("Cell of a nil store = %v, %d", m, e)
	}
	s.Script()
	s.Script(api.Choice{Kind: api.Crash})
	s.Revive()
	if s.Dead() || len(s.Calls()) != 0 || s.Copy() != nil {
		t.Errorf("a nil store: dead %t, calls %v, copy %v", s.Dead(), s.Calls(), s.Copy())
	}
}

// P16.5: Get returns what was put last

func TestHonestStoreIsAMap(t *testing.T) {
	r := rand.New(rand.NewPCG(16, 5))
	for range 60 {
		s, want := New(), map[string]string{}
		for range 200 {
			name := someName(r)
			switch r.IntN(6) {
			case 0, 1:
				b := source(r.IntN(40), r.Uint64())
				checkPut(t, s, name, b, api.OK)
				want[name] = string(b)
			case 2:
				if e := s.Del(name); e != api.OK {
					t.Errorf("Del(%q) = %d", name, e)
				}
				delete(want, name)
			case 3:
				s.Script([]api.Choice{{}, {}, {Kind: -1}}[:r.IntN(4)]...)
			case 4:
				checkList(t, s, slices.Sorted(maps.Keys(want))...)
			}
			for _, name := range []string{name, someName(r)} {
				b, there := want[name]
				checkGet(t, s, name, b, okIf(there))
			}
		}
	}
}

func TestManyCalls(t *testing.T) {
	s := New()
	name := func(i int) string { return "n" + fmt.Sprint(i*7919%30011) }
	for i := range 30000 {
		checkPut(t, s, name(i), []byte(fmt.Sprint(i)), api.OK)
	}
	for i := range 30000 {
		checkGet(t, s, name(i), fmt.Sprint(i), api.OK)
	}
	if got := len(s.Calls()); got != 60000 {
		t.Errorf("%d calls are recorded", got)
	}
	if l, e := s.List(); len(l) != 30000 || !slices.IsSorted(l) || e != api.OK {
		t.Errorf("List() has %d names, %d", len(l), e)
	}
}

// P16.6: Gen and Used never decrease

func TestTheCellNeverDecreases(t *testing.T) {
	r := rand.New(rand.NewPCG(16, 6))
	for range 100 {
		w := watch()
		before := api.Mark{}
		for range 100 {
			w.some(t, r)
			w.revive()
			w.script()
			now := w.cell(t)
			if now.Gen < before.Gen || now.Used < before.Used {
				t.Errorf("the cell was %v and is %v", before, now)
			}
			before = now
		}
	}
}

// All of it, held against the model

// TestPlay is a play that was worked out by hand.
func TestPlay(t *testing.T) {
	s := New()
	s.Script(api.Choice{}, api.Choice{Kind: api.Lose}, api.Choice{Kind: api.Refuse}, api.Choice{Kind: api.Older}, api.Choice{Kind: api.Other, Name: "x1"},
		api.Choice{Kind: api.Forge}, api.Choice{Kind: api.Older, N: 2}, api.Choice{Kind: api.Crash}, api.Choice{Kind: api.Lose})
	checkPut(t, s, "x1", []byte("p"), api.OK)
	checkPut(t, s, "x1", []byte("qq"), api.OK)
	checkPut(t, s, "x1", []byte("rrr"), api.ErrStore)
	checkPut(t, s, "x1", []byte("ssss"), api.OK)
	checkGet(t, s, "x2", "ssss", api.OK)
	checkRaise(t, s, api.Mark{Gen: 1, Stamp: 1, Used: 1}, api.OK)
	checkGet(t, s, "x1", "", api.ErrGone)
	checkRaise(t, s, api.Mark{Gen: 2, Stamp: 2, Used: 2}, api.ErrCrash)
	checkPut(t, s, "x2", []byte("t"), api.ErrCrash)
	s.Revive()
	checkList(t, s)
	checkList(t, s, "x1")
	checkCell(t, s, api.Mark{Gen: 1, Stamp: 1, Used: 1})
	want := []api.Call{{Verb: "put", Name: "x1", Size: 1}, {Verb: "put", Name: "x1", Size: 2}, {Verb: "put", Name: "x1", Size: 3}, {Verb: "put", Name: "x1", Size: 4},
		{Verb: "get", Name: "x2"}, {Verb: "cell"}, {Verb: "get", Name: "x1"}, {Verb: "cell"}, {Verb: "list"}, {Verb: "list"}, {Verb: "cell"}}
	if got := s.Calls(); !slices.Equal(got, want) {
		t.Errorf("Calls() = %v; want %v", got, want)
	}
}

func TestRandomPlays(t *testing.T) {
	r := rand.New(rand.NewPCG(16, 1))
	for range 300 {
		w := watch()
		for range 120 {
			w.some(t, r)
		}
		w.check(t)
		w.everything(t)
	}
}

func TestPlaysAreDeterministic(t *testing.T) {
	for range 5 {
		var lists [][]string
		for range 4 {
			r := rand.New(rand.NewPCG(16, 2))
			w := watch()
			for range 300 {
				w.some(t, r)
			}
			w.revive()
			w.script()
			lists = append(lists, w.list(t))
		}
		for _, l := range lists {
			if !slices.Equal(l, lists[0]) {
				t.Errorf("the same play ends with %q and with %q", lists[0], l)
			}
		}
	}
}

// The memory rule

func TestArgumentsAreNotRetained(t *testing.T) {
	s := New()
	for _, n := range []int{1, 5, 4096, 65536} {
		b := source(n, 1)
		checkPut(t, s, "a", b, api.OK)
		spoil(b)
		checkGet(t, s, "a", string(source(n, 1)), api.OK)
		checkPut(t, s, "a", nil, api.OK)
		checkOlder(t, s, "a", 1, string(source(n, 1)), api.OK)
	}
	forged := source(20, 2)
	l := []api.Choice{{Kind: api.Forge, Bytes: forged}, {Kind: api.Forge, Bytes: forged}, {Kind: api.Older, N: 1}}
	s.Script(l...)
	spoil(forged)
	for i := range l {
		l[i] = api.Choice{Kind: api.Crash}
	}
	checkGet(t, s, "a", string(source(20, 2)), api.OK)
	checkGet(t, s, "a", string(source(20, 2)), api.OK)
	checkGet(t, s, "a", string(source(65536, 1)), api.OK)
	checkGet(t, s, "a", "", api.OK)
}

func TestArgumentsAreNotModified(t *testing.T) {
	for _, kind := range allKinds() {
		whole := source(50, 1)
		s := New()
		s.Script(api.Choice{Kind: kind})
		s.Put("a", whole[10:30])
		s.Revive()
		s.Put("a", whole[:20])
		s.Put("a", whole[:0])
		if !bytes.Equal(whole, source(50, 1)) {
			t.Errorf("Put with choice %d writes to its argument, or behind it", kind)
		}
		room := []api.Choice{{Kind: api.Forge, Bytes: whole[10:30]}, {Kind: kind, N: 3, Name: "b", Bytes: whole[:5]}, {Kind: 77, N: 78, Name: "c", Bytes: whole[5:6]}}
		s.Script(room[:2]...)
		if b, _ := s.Get("a"); len(b) > 0 {
			spoil(b)
		}
		if b, _ := s.Get("a"); len(b) > 0 {
			spoil(b)
		}
		s.Revive()
		s.Get("a")
		if room[0].Kind != api.Forge || room[1].Kind != kind || room[1].N != 3 || room[1].Name != "b" || room[2].Kind != 77 || room[2].N != 78 || room[2].Name != "c" || len(room[2].Bytes) != 1 {
			t.Errorf("Script writes to its argument, or behind it: %v", room)
		}
		if !bytes.Equal(whole, source(50, 1)) {
			t.Error("Script or Get writes to the bytes of a choice, or behind them")
		}
	}
}

func TestResultsShareNoMemory(t *testing.T) {
	for _, n := range []int{1, 5, 33, 4096, 65536} {
		s := New()
		checkPut(t, s, "a", source(n, 1), api.OK)
		checkPut(t, s, "a", source(n, 2), api.OK)
		forge := api.Choice{Kind: api.Forge, Bytes: source(n, 3)}
		other := api.Choice{Kind: api.Other, Name: "a"}
		older := api.Choice{Kind: api.Older, N: 1}
		for range 3 {
			s.Script(api.Choice{}, api.Choice{}, other, older, forge, forge)
			for i, want := range []uint64{2, 2, 2, 1, 3, 3} {
				b, e := s.Get("a")
				if !bytes.Equal(b, source(n, want)) || e != api.OK {
					t.Errorf("Get %d has other bytes after earlier results were written over", i)
				}
				spoil(b)
			}
		}
	}
}

func TestListAndCallsShareNoMemory(t *testing.T) {
	w := watchWithAll(t, false)
	w.script()
	for range 3 {
		names := w.list(t)
		spoil(names)
		calls := w.s.Calls()
		spoil(calls)
		w.check(t)
		w.list(t)
		w.put(t, "a", []byte("more"))
		w.check(t)
	}
}

func TestSpareCapacityOfCallsIsNotShared(t *testing.T) {
	s := New()
	for range 100 {
		s.Cell()
		before := s.Calls()
		s.Get("a")
		s.Get("b")
		after := s.Calls()
		spoil(before)
		if n := len(after); after[n-1] != (api.Call{Verb: "get", Name: "b"}) || after[0] != (api.Call{Verb: "cell"}) {
			t.Fatalf("the calls changed when earlier ones were written over: %v", after)
		}
		if !slices.Equal(s.Calls(), after) {
			t.Fatal("the records changed when earlier ones were written over")
		}
	}
}

func TestACopySharesNoChoices(t *testing.T) {
	for _, way := range ways {
		w := watch()
		w.script(api.Choice{Kind: api.Forge, Bytes: source(9, 1)}, api.Choice{Kind: api.Forge, Bytes: source(9, 2)})
		c := way.copy(w)
		for _, one := range []*watched{w, c, w, c} {
			b := one.get(t, "a")
			spoil(b)
		}
		w.script(api.Choice{Kind: api.Refuse})
		c.get(t, "a")
		w.get(t, "a")
	}
}

// Helpers

// source returns n bytes that depend on seed.
func source(n int, seed uint64) []byte {
	r := rand.New(rand.NewPCG(seed, 16))
	b := make([]byte, n)
	for i := range b {
		b[i] = byte(r.Uint64())
	}
	return b
}

// spoil writes over all elements of l and over its spare capacity.
func spoil[T any](l []T) {
	l = l[:cap(l)]
	for i := range l {
		switch one := any(&l[i]).(type) {
		case *byte:
			*one ^= 0xff
		case *string:
			*one = "spoilt"
		case *api.Call:
			*one = api.Call{Verb: "spoilt", Name: "spoilt", Size: -1}
		}
	}
}

// allKinds returns all kinds of choices and others.
func allKinds() []int {
	return slices.Concat([]int{0, 1, 2, 3, 4, 5, 6}, oddKinds)
}

// someName returns one of a few names.
func someName(r *rand.Rand) string {
	return rightNames[r.IntN(8)]
}

// withObjects returns a store with the objects a and b, a deleted one, and a cell.
func withObjects() *Store {
	s := New()
	s.Put("a", []byte("one"))
	s.Put("a", []byte("two"))
	s.Put("gone", []byte("was"))
	s.Put("b", []byte("other"))
	s.Del("gone")
	s.Raise(api.Mark{Gen: 1, Stamp: 2, Used: 3})
	return s
}

// checkAsWithObjects checks that s, whose queue it empties, has the objects, the history and the cell of withObjects.
func checkAsWithObjects(t *testing.T, s *Store) {
	t.Helper()
	s.Script()
	checkList(t, s, "a", "b")
	checkGet(t, s, "a", "two", api.OK)
	checkGet(t, s, "b", "other", api.OK)
	checkGone(t, s, "gone")
	checkGone(t, s, "c")
	checkOlder(t, s, "a", 1, "one", api.OK)
	checkOlder(t, s, "a", 2, "", api.ErrGone)
	checkOlder(t, s, "b", 0, "other", api.OK)
	checkOlder(t, s, "b", 1, "", api.ErrGone)
	checkOlder(t, s, "gone", 0, "", api.ErrGone)
	checkOlder(t, s, "gone", 1, "was", api.OK)
	checkOlder(t, s, "gone", 2, "", api.ErrGone)
	checkOlder(t, s, "c", 0, "", api.ErrGone)
	checkCell(t, s, api.Mark{Gen: 1, Stamp: 2, Used: 3})
}

// okIf returns OK, or ErrGone where nothing is there.
func okIf(there bool) api.Errno {
	if there {
		return api.OK
	}
	return api.ErrGone
}

// putsSince returns how many puts ago the first one under a is, after one more call that changes name.
func putsSince(name string) int {
	if name == "a" {
		return 2
	}
	return 1
}

func checkErrno(t *testing.T, what string, got, want api.Errno) {
	t.Helper()
	if got != want {
		t.Errorf("%s = %d; want %d", what, got, want)
	}
}

func checkNamed(t *testing.T, name string, want bool) {
	t.Helper()
	if Named(name) != want {
		t.Errorf("Named(%.40q), of %d bytes, is not %t", name, len(name), want)
	}
}

// checkNamesTaken checks that Named, Put, Get and Del agree on a name.
func checkNamesTaken(t *testing.T, name string, right bool) {
	t.Helper()
	checkNamed(t, name, right)
	s := New()
	if right {
		checkPut(t, s, name, []byte("x"), api.OK)
		checkGet(t, s, name, "x", api.OK)
		checkList(t, s, name)
		checkErrno(t, "Del", s.Del(name), api.OK)
		checkGone(t, s, name)
		return
	}
	checkPut(t, s, name, []byte("x"), api.ErrArg)
	checkGet(t, s, name, "", api.ErrArg)
	checkErrno(t, fmt.Sprintf("Del(%.40q)", name), s.Del(name), api.ErrArg)
	checkList(t, s)
	if n := len(s.Calls()); n != 1 {
		t.Errorf("%d calls are recorded for the wrong name %.40q", n-1, name)
	}
}

func checkPut(t *testing.T, s *Store, name string, b []byte, want api.Errno) {
	t.Helper()
	if e := s.Put(name, b); e != want {
		t.Errorf("Put(%.40q) of %d bytes = %d; want %d", name, len(b), e, want)
	}
}

func checkGet(t *testing.T, s *Store, name, want string, wantE api.Errno) {
	t.Helper()
	if b, e := s.Get(name); string(b) != want || e != wantE || e != api.OK && cap(b) != 0 {
		t.Errorf("Get(%.40q) = %.40q of %d bytes, %d; want %.40q of %d bytes, %d", name, b, len(b), e, want, len(want), wantE)
	}
}

func checkGone(t *testing.T, s *Store, name string) {
	t.Helper()
	checkGet(t, s, name, "", api.ErrGone)
}

// checkOlder checks a Get, for which it replaces the queue.
func checkOlder(t *testing.T, s *Store, name string, n int, want string, wantE api.Errno) {
	t.Helper()
	s.Script(api.Choice{Kind: api.Older, N: n, Name: "b", Bytes: []byte("forged")})
	if b, e := s.Get(name); string(b) != want || e != wantE {
		t.Errorf("Get(%q) %d puts ago = %.40q, %d; want %.40q, %d", name, n, b, e, want, wantE)
	}
}

func checkList(t *testing.T, s *Store, want ...string) {
	t.Helper()
	if got, e := s.List(); !slices.Equal(got, want) || e != api.OK {
		t.Errorf("List() = %q, %d; want %q", got, e, want)
	}
}

func checkCell(t *testing.T, s *Store, want api.Mark) {
	t.Helper()
	if got, e := s.Cell(); got != want || e != api.OK {
		t.Errorf("Cell() = %v, %d; want %v", got, e, want)
	}
}

func checkRaise(t *testing.T, s *Store, m api.Mark, want api.Errno) {
	t.Helper()
	if e := s.Raise(m); e != want {
		t.Errorf("Raise(%v) = %d; want %d", m, e, want)
	}
}

// checkDead checks that each call of s, which is dead, returns ErrCrash and nothing else.
func checkDead(t *testing.T, s *Store) {
	t.Helper()
	for _, v := range verbs {
		checkErrno(t, v.what+" of a dead store", v.do(s), api.ErrCrash)
	}
	checkGet(t, s, "a", "", api.ErrCrash)
	if l, e := s.List(); len(l) != 0 || cap(l) != 0 || e != api.ErrCrash {
		t.Errorf("List of a dead store = %q, %d", l, e)
	}
	if m, e := s.Cell(); m != (api.Mark{}) || e != api.ErrCrash {
		t.Errorf("Cell of a dead store = %v, %d", m, e)
	}
	if !s.Dead() {
		t.Error("a store that crashed is not dead")
	}
}

// The model: a list of all that was done, which is gone through anew for each result

// done is a put, or a put of nothing.
type done struct {
	name, bytes string
	there       bool
}

// watched is a store and the model of it.
type watched struct {
	s       *Store
	done    []done
	records []api.Call
	queue   []api.Choice
	mark    api.Mark
	dead    bool
}

// ways are both ways of copying a store.
var ways = []struct {
	what string
	copy func(w *watched) *watched
}{
	{"Copy", func(w *watched) *watched { return w.twin(w.s.Copy()) }},
	{"by value", func(w *watched) *watched { s := *w.s; return w.twin(&s) }},
}

func watch() *watched {
	return &watched{s: New()}
}

// watchWithAll returns a store that has objects, history, choices, records and a cell.
func watchWithAll(t *testing.T, dead bool) *watched {
	t.Helper()
	w := watch()
	for i, name := range []string{"a", "b", "a", "c", "a", "b", "d"} {
		w.put(t, name, []byte(fmt.Sprint(name, i)))
	}
	w.del(t, "c")
	w.del(t, "e")
	w.raise(t, api.Mark{Gen: 4, Stamp: 5, Used: 6})
	if dead {
		w.script(api.Choice{Kind: api.Crash})
		w.get(t, "a")
	}
	w.script(api.Choice{Kind: api.Older, N: 1}, api.Choice{}, api.Choice{Kind: api.Refuse}, api.Choice{Kind: api.Forge, Bytes: []byte("forged")}, api.Choice{Kind: api.Crash}, api.Choice{Kind: api.Lose})
	return w
}

// twin returns the model of a copy.
func (w *watched) twin(s *Store) *watched {
	c := *w
	c.s = s
	c.done, c.records, c.queue = slices.Clone(w.done), slices.Clone(w.records), slices.Clone(w.queue)
	return &c
}

// stored returns what was stored under name n puts ago.
func (w *watched) stored(name string, n int) done {
	for i := len(w.done) - 1; i >= 0; i-- {
		if w.done[i].name != name {
			continue
		}
		if n == 0 {
			return w.done[i]
		}
		n--
	}
	return done{}
}

// called notes a call and returns its choice, or why there is none.
func (w *watched) called(verb, name string, size int) (c api.Choice, e api.Errno) {
	if w.dead {
		return c, api.ErrCrash
	}
	w.records = append(w.records, api.Call{Verb: verb, Name: name, Size: size})
	if len(w.queue) > 0 {
		c, w.queue = w.queue[0], w.queue[1:]
	}
	if c.Kind == api.Crash {
		w.dead = true
		return c, api.ErrCrash
	}
	if c.Kind == api.Refuse && verb != "cell" {
		return c, api.ErrStore
	}
	return c, api.OK
}

// goneOr returns the bytes of d, or why there are none.
func goneOr(d done) (string, api.Errno) {
	if !d.there {
		return "", api.ErrGone
	}
	if len(d.bytes) > 65536 {
		return "", api.ErrBig
	}
	return d.bytes, api.OK
}

func (w *watched) put(t *testing.T, name string, b []byte) {
	t.Helper()
	c, want := w.called("put", name, len(b))
	if want == api.OK && c.Kind != api.Lose {
		w.done = append(w.done, done{name, string(b), true})
	}
	checkPut(t, w.s, name, b, want)
}

func (w *watched) del(t *testing.T, name string) {
	t.Helper()
	c, want := w.called("del", name, 0)
	if want == api.OK && c.Kind != api.Lose {
		w.done = append(w.done, done{name, "", false})
	}
	checkErrno(t, "Del of "+name, w.s.Del(name), want)
}

func (w *watched) get(t *testing.T, name string) []byte {
	t.Helper()
	want := ""
	c, e := w.called("get", name, 0)
	if e == api.OK {
		switch c.Kind {
		case api.Lose:
			e = api.ErrGone
		case api.Older:
			if e = api.ErrGone; c.N >= 0 {
				want, e = goneOr(w.stored(name, c.N))
			}
		case api.Other:
			want, e = goneOr(w.stored(c.Name, 0))
		case api.Forge:
			want, e = goneOr(done{"", string(c.Bytes), true})
		default:
			want, e = goneOr(w.stored(name, 0))
		}
	}
	b, gotE := w.s.Get(name)
	if string(b) != want || gotE != e {
		t.Errorf("Get(%q) with choice %v = %.40q, %d; want %.40q, %d", name, c, b, gotE, want, e)
	}
	return b
}

func (w *watched) list(t *testing.T) []string {
	t.Helper()
	names := map[string]int{}
	c, e := w.called("list", "", 0)
	if e == api.OK && c.Kind != api.Lose {
		for _, d := range w.done {
			if w.stored(d.name, 0).there {
				names[d.name]++
			}
		}
	}
	got, gotE := w.s.List()
	if want := slices.Sorted(maps.Keys(names)); !slices.Equal(got, want) || gotE != e {
		t.Errorf("List() with choice %d = %q, %d; want %q, %d", c.Kind, got, gotE, want, e)
	}
	return got
}

func (w *watched) cell(t *testing.T) api.Mark {
	t.Helper()
	want := api.Mark{}
	_, e := w.called("cell", "", 0)
	if e == api.OK {
		want = w.mark
	}
	got, gotE := w.s.Cell()
	if got != want || gotE != e {
		t.Errorf("Cell() = %v, %d; want %v, %d", got, gotE, want, e)
	}
	return got
}

func (w *watched) raise(t *testing.T, m api.Mark) {
	t.Helper()
	_, want := w.called("cell", "", 0)
	if want == api.OK {
		if m.Gen >= w.mark.Gen && m.Used >= w.mark.Used {
			w.mark = m
		} else {
			want = api.ErrOld
		}
	}
	checkRaise(t, w.s, m, want)
}

func (w *watched) script(l ...api.Choice) {
	w.queue = slices.Clone(l)
	w.s.Script(l...)
}

func (w *watched) revive() {
	w.dead = false
	w.s.Revive()
}

// check checks what can be seen without a call.
func (w *watched) check(t *testing.T) {
	t.Helper()
	if w.s.Dead() != w.dead {
		t.Errorf("Dead() is not %t", w.dead)
	}
	if got := w.s.Calls(); !slices.Equal(got, w.records) {
		t.Errorf("Calls() = %v; want %v", got, w.records)
	}
}

// everything makes calls of every sort, first with the choices that are left, and changes all that can be changed.
func (w *watched) everything(t *testing.T) {
	t.Helper()
	w.get(t, "a")
	w.revive()
	for range 8 {
		w.get(t, "a")
		w.revive()
	}
	w.script()
	w.list(t)
	w.cell(t)
	for _, name := range append([]string{"a", "b", "c", "d", "e"}, rightNames[:8]...) {
		w.get(t, name)
		for n := -1; n < 6; n++ {
			w.script(api.Choice{Kind: api.Older, N: n})
			w.get(t, name)
		}
	}
	w.put(t, "a", []byte(fmt.Sprint(len(w.records))))
	w.put(t, "e", []byte(fmt.Sprint(len(w.records))))
	w.del(t, "b")
	w.raise(t, api.Mark{Gen: w.mark.Gen + 1, Stamp: len(w.records), Used: w.mark.Used + 1})
	w.list(t)
	w.script(api.Choice{Kind: api.Lose}, api.Choice{Kind: api.Forge, Bytes: []byte(fmt.Sprint(len(w.records)))}, api.Choice{Kind: api.Crash})
	w.check(t)
}

// some does one thing by chance.
func (w *watched) some(t *testing.T, r *rand.Rand) {
	t.Helper()
	name := someName(r)
	switch r.IntN(12) {
	case 0, 1, 2:
		w.put(t, name, source(r.IntN(6), r.Uint64()))
	case 3:
		w.del(t, name)
	case 4, 5, 6:
		w.get(t, name)
	case 7:
		w.list(t)
	case 8:
		w.cell(t)
	case 9:
		w.raise(t, api.Mark{Gen: w.mark.Gen + r.IntN(4) - 1, Stamp: r.IntN(100), Used: w.mark.Used + r.IntN(4) - 1})
	case 10:
		w.script(someChoices(r)...)
	case 11:
		if r.IntN(2) == 0 {
			w.revive()
		}
	}
	if r.IntN(4) == 0 {
		w.check(t)
	}
}

// someChoices returns a few choices by chance.
func someChoices(r *rand.Rand) []api.Choice {
	l := make([]api.Choice, r.IntN(7))
	for i := range l {
		kinds := []int{0, 1, 2, 3, 3, 4, 5, 5, 6, oddKinds[r.IntN(len(oddKinds))]}
		l[i] = api.Choice{Kind: kinds[r.IntN(len(kinds))], N: r.IntN(6) - 1, Name: someName(r), Bytes: source(r.IntN(5), r.Uint64())}
		if r.IntN(20) == 0 {
			l[i].Bytes = make([]byte, 65535+r.IntN(4))
		}
	}
	return l
}
