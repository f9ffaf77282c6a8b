package key_test

import (
	"bytes"
	"crypto/sha256"
	"encoding/hex"
	"slices"
	"strings"
	"testing"

	"gleaner/api"
	"gleaner/key"
	"gleaner/sha"
)

// dice throws numbers that look like chance and are the same in each run.
type dice uint64

func (x *dice) throw(n int) int {
	*x = *x*6364136223846793005 + 1442695040888963407
	return int(uint64(*x)>>33) % n
}

func (x *dice) key() api.Key {
	var k api.Key
	for i := range k {
		k[i] = byte(x.throw(256))
	}
	return k
}

// wide are keys that lie all over, with bytes of every value among them.
func wide(n int) []api.Key {
	x := dice(n)
	keys := []api.Key{{}, of(0xff, 32)}
	for len(keys) < n {
		keys = append(keys, x.key())
	}
	return keys
}

// of is the key with the byte b n times and zeros behind.
func of(b byte, n int) api.Key {
	var k api.Key
	for i := range n {
		k[i] = b
	}
	return k
}

// digits is the key with these first digits and zeros behind.
func digits(t *testing.T, first string) api.Key {
	t.Helper()
	b, err := hex.DecodeString(first + strings.Repeat("0", 64-len(first)))
	if err != nil {
		t.Fatalf("the test's own digits: %v", err)
	}
	return api.Key(b)
}

// example is the three keys of the chapter's examples.
func example() (a, b, c api.Key) {
	a[31] = 1
	b[0] = 0xab
	c = b
	c[31] = 1
	return a, b, c
}

// P3.1.
func TestOfIsTheSum(t *testing.T) {
	x := dice(1)
	for n := range 300 {
		b := make([]byte, n)
		for i := range b {
			b[i] = byte(x.throw(256))
		}
		if got := key.Of(b); got != sha256.Sum256(b) || got != sha.Sum(b) {
			t.Errorf("P3.1: Of of %d bytes: %x", n, got)
		}
	}
	if key.Of(nil) != key.Of([]byte{}) {
		t.Error("P3.1: Of of a nil and of an empty list are unlike")
	}
}

// P3.1: the example.
func TestOfNoBytes(t *testing.T) {
	if got := key.Hex(key.Of(nil)); got != "e3b0c44298fc1c149afbf4c8996fb92427ae41e4649b934ca495991b7852b855" {
		t.Errorf("P3.1: Of of no bytes: %s", got)
	}
}

// P3.1.
func TestFromTakes32BytesAlone(t *testing.T) {
	for n := range 100 {
		b := make([]byte, n, n+40)
		for i := range b {
			b[i] = byte(i + 1)
		}
		k, e := key.From(b)
		switch {
		case n == 32 && (e != api.OK || !bytes.Equal(k[:], b)):
			t.Errorf("P3.1: From of 32 bytes: %x, %d", k, e)
		case n != 32 && (e != api.ErrArg || k != api.Key{}):
			t.Errorf("P3.1: From of %d bytes: %x, %d", n, k, e)
		}
	}
	if k, e := key.From(nil); e != api.ErrArg || k != (api.Key{}) {
		t.Errorf("P3.1: From of nil: %x, %d", k, e)
	}
	if k, e := key.From(make([]byte, 1<<16)); e != api.ErrArg || k != (api.Key{}) {
		t.Errorf("P3.1: From of many bytes: %x, %d", k, e)
	}
}

// P3.1: what was handed in stays, and what is written over it later does not change the key.
func TestListsStayAndAreNotKept(t *testing.T) {
	x := dice(2)
	room := make([]byte, 100)
	for i := range room {
		room[i] = byte(x.throw(256))
	}
	was := slices.Clone(room)
	k, e := key.From(room[:32])
	sum := key.Of(room[:32])
	if e != api.OK || !bytes.Equal(room, was) {
		t.Fatalf("P3.1: From and Of changed the list or the room behind it (error %d)", e)
	}
	clear(room)
	if !bytes.Equal(k[:], was[:32]) || sum != sha256.Sum256(was[:32]) {
		t.Error("P3.1: what was written over the list later changed the key")
	}
}

// P3.2: bytes of every value, at every place.
func TestHexOfEveryByte(t *testing.T) {
	for v := range 256 {
		for _, at := range []int{0, 1, 15, 30, 31} {
			var k api.Key
			k[at] = byte(v)
			if got := key.Hex(k); got != hex.EncodeToString(k[:]) {
				t.Errorf("P3.2: Hex with the byte %d at %d: %s", v, at, got)
			}
		}
	}
	for _, k := range wide(200) {
		if got := key.Hex(k); got != hex.EncodeToString(k[:]) || len(got) != 64 {
			t.Errorf("P3.2: Hex of %x: %s", k, got)
		}
	}
}

// P3.2: Parse of Hex is the key, and Hex of Parse the text.
func TestParseAndHexThereAndBack(t *testing.T) {
	for _, k := range wide(200) {
		if got, e := key.Parse(key.Hex(k)); e != api.OK || got != k {
			t.Errorf("P3.2: Parse of Hex of %x: %x, %d", k, got, e)
		}
	}
	x := dice(3)
	for range 200 {
		var text [64]byte
		for i := range text {
			text[i] = "0123456789abcdef"[x.throw(16)]
		}
		s := string(text[:])
		k, e := key.Parse(s)
		if e != api.OK || key.Hex(k) != s || hex.EncodeToString(k[:]) != s {
			t.Errorf("P3.2: Hex of Parse of %s: %x, %d", s, k, e)
		}
	}
}

func wantNoKey(t *testing.T, s string) {
	t.Helper()
	if k, e := key.Parse(s); e != api.ErrHex || k != (api.Key{}) {
		t.Errorf("P3.2: Parse of %q: %x, %d", s, k, e)
	}
}

// P3.2: no other number of digits than 64.
func TestParseOfOtherLengths(t *testing.T) {
	for n := range 200 {
		if n != 64 {
			wantNoKey(t, strings.Repeat("a", n))
		}
	}
	wantNoKey(t, strings.Repeat("0", 1<<16))
	h := key.Hex(key.Of(nil))
	wantNoKey(t, h[:63])
	wantNoKey(t, h+"0")
	wantNoKey(t, h+h)
	wantNoKey(t, "0x"+h)
	wantNoKey(t, h+"\n")
}

// P3.2: every byte that is no digit, at every place: great letters and the signs next to the digits are among them.
func TestParseOfOtherSigns(t *testing.T) {
	h := key.Hex(key.Of([]byte("abc")))
	for at := range len(h) {
		for v := range 256 {
			s := h[:at] + string([]byte{byte(v)}) + h[at+1:]
			if v >= '0' && v <= '9' || v >= 'a' && v <= 'f' {
				if k, e := key.Parse(s); e != api.OK || key.Hex(k) != s {
					t.Errorf("P3.2: Parse of %q: %x, %d", s, k, e)
				}
			} else {
				wantNoKey(t, s)
			}
		}
	}
	wantNoKey(t, strings.ToUpper(h))
	wantNoKey(t, strings.Repeat("/", 64))
	wantNoKey(t, strings.Repeat(":", 64))
	wantNoKey(t, strings.Repeat("`", 64))
	wantNoKey(t, strings.Repeat("g", 64))
	wantNoKey(t, strings.Repeat("ä", 32))
	wantNoKey(t, strings.Repeat("0", 62)+"٣") // a digit of another script, two bytes
}

func wantOrder(t *testing.T, a, b api.Key, want int) {
	t.Helper()
	if key.Compare(a, b) != want || key.Compare(b, a) != -want {
		t.Errorf("P3.3: Compare of %x and %x: %d, and the other way round %d", a, b, key.Compare(a, b), key.Compare(b, a))
	}
}

// P3.3: at the first, at the last, at every one byte; whole bytes and their greatest bits.
func TestCompareOfOneByte(t *testing.T) {
	for at := range 32 {
		a := of(0x7f, 32)
		b := a
		b[at]++
		wantOrder(t, a, b, -1)
		b[at] = 0xff
		wantOrder(t, a, b, -1)
		b[at] = 0
		wantOrder(t, a, b, 1)
		wantOrder(t, a, a, 0)
		wantOrder(t, b, b, 0)
	}
}

// P3.3: of several bytes the first that differs says it.
func TestCompareOfMoreBytes(t *testing.T) {
	for first := range 32 {
		for later := first + 1; later < 32; later++ {
			var a, b api.Key
			a[first], b[first] = 1, 2
			a[later], b[later] = 200, 100
			wantOrder(t, a, b, -1)
		}
	}
	a, b, c := example()
	wantOrder(t, a, b, -1)
	wantOrder(t, b, c, -1)
	wantOrder(t, c, c, 0)
	wantOrder(t, api.Key{}, of(0xff, 32), -1)
}

// P3.3: the order is that of the digits as texts.
func TestCompareByDice(t *testing.T) {
	keys := wide(60)
	for _, a := range keys {
		for _, b := range keys {
			wantOrder(t, a, b, strings.Compare(key.Hex(a), key.Hex(b)))
		}
	}
}
