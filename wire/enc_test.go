package wire_test

import (
	"bytes"
	"math"
	"strings"
	"testing"

	"gleaner/api"
	"gleaner/wire"
)

// Named types, because Whole takes every type that lies on a whole number.
type (
	small int8
	great uint64
)

// laid is what some adding makes.
func laid(add func(e *wire.Enc)) []byte {
	var e wire.Enc
	add(&e)
	return e.Bytes()
}

func wantBytes(t *testing.T, what string, got []byte, want ...byte) {
	t.Helper()
	if !bytes.Equal(got, want) {
		t.Errorf("%s: % x, want % x", what, got, want)
	}
}

// someKey is a key whose bytes are all unlike.
func someKey() api.Key {
	var k api.Key
	for i := range k {
		k[i] = byte(200 - i)
	}
	return k
}

// P1.2: Var.
func TestVarIsSevenBitsAByte(t *testing.T) {
	for _, c := range []struct {
		v    uint64
		want []byte
	}{
		{0, []byte{0}},
		{1, []byte{1}},
		{127, []byte{127}},
		{128, []byte{0x80, 1}},
		{129, []byte{0x81, 1}},
		{255, []byte{0xFF, 1}},
		{300, []byte{0xAC, 2}},
		{1<<14 - 1, []byte{0xFF, 0x7F}},
		{1 << 14, []byte{0x80, 0x80, 1}},
		{1<<21 - 1, []byte{0xFF, 0xFF, 0x7F}},
		{1 << 32, []byte{0x80, 0x80, 0x80, 0x80, 0x10}},
		{1<<63 - 1, []byte{255, 255, 255, 255, 255, 255, 255, 255, 127}},
		{1 << 63, []byte{128, 128, 128, 128, 128, 128, 128, 128, 128, 1}},
		{1<<64 - 1, []byte{255, 255, 255, 255, 255, 255, 255, 255, 255, 1}},
	} {
		wantBytes(t, "P1.2: Var", laid(func(e *wire.Enc) { e.Var(c.v) }), c.want...)
	}
}

// P1.2: Put, every width and both signs.
func TestPutIsTheLowestByteFirst(t *testing.T) {
	for _, c := range []struct {
		what string
		add  func(e *wire.Enc)
		want []byte
	}{
		{"int8 0", func(e *wire.Enc) { wire.Put(e, int8(0)) }, []byte{0}},
		{"int8 127", func(e *wire.Enc) { wire.Put(e, int8(127)) }, []byte{127}},
		{"int8 -1", func(e *wire.Enc) { wire.Put(e, int8(-1)) }, []byte{255}},
		{"int8 -128", func(e *wire.Enc) { wire.Put(e, int8(-128)) }, []byte{128}},
		{"uint8 255", func(e *wire.Enc) { wire.Put(e, uint8(255)) }, []byte{255}},
		{"int16 -2", func(e *wire.Enc) { wire.Put(e, int16(-2)) }, []byte{0xFE, 255}},
		{"int16 least", func(e *wire.Enc) { wire.Put(e, int16(math.MinInt16)) }, []byte{0, 128}},
		{"uint16", func(e *wire.Enc) { wire.Put(e, uint16(0x0102)) }, []byte{2, 1}},
		{"int32 -3", func(e *wire.Enc) { wire.Put(e, int32(-3)) }, []byte{0xFD, 255, 255, 255}},
		{"int32 greatest", func(e *wire.Enc) { wire.Put(e, int32(math.MaxInt32)) }, []byte{255, 255, 255, 127}},
		{"uint32 258", func(e *wire.Enc) { wire.Put(e, uint32(258)) }, []byte{2, 1, 0, 0}},
		{"int64 -4", func(e *wire.Enc) { wire.Put(e, int64(-4)) }, []byte{0xFC, 255, 255, 255, 255, 255, 255, 255}},
		{"int64 least", func(e *wire.Enc) { wire.Put(e, int64(math.MinInt64)) }, []byte{0, 0, 0, 0, 0, 0, 0, 128}},
		{"uint64", func(e *wire.Enc) { wire.Put(e, uint64(0x0102030405060708)) }, []byte{8, 7, 6, 5, 4, 3, 2, 1}},
		{"named, small", func(e *wire.Enc) { wire.Put(e, small(-5)) }, []byte{0xFB}},
		{"named, great", func(e *wire.Enc) { wire.Put(e, great(1)<<63) }, []byte{0, 0, 0, 0, 0, 0, 0, 128}},
	} {
		wantBytes(t, "P1.2: Put "+c.what, laid(c.add), c.want...)
	}
}

// P1.2: Text, Raw, Key.
func TestTextRawKey(t *testing.T) {
	wantBytes(t, "P1.2: no text", laid(func(e *wire.Enc) { e.Text("") }), 0)
	wantBytes(t, "P1.2: Text", laid(func(e *wire.Enc) { e.Text("ab") }), 2, 'a', 'b')
	wantBytes(t, "P1.2: a length in bytes, not in runes", laid(func(e *wire.Enc) { e.Text("ä") }), 2, 0xC3, 0xA4)
	wantBytes(t, "P1.2: a text that is no UTF-8", laid(func(e *wire.Enc) { e.Text("\xFF\x00") }), 2, 0xFF, 0)
	long := strings.Repeat("x", 300)
	wantBytes(t, "P1.2: a long text", laid(func(e *wire.Enc) { e.Text(long) }), append([]byte{0xAC, 2}, long...)...)
	wantBytes(t, "P1.2: no bytes", laid(func(e *wire.Enc) { e.Raw(nil); e.Raw([]byte{}) }))
	wantBytes(t, "P1.2: Raw", laid(func(e *wire.Enc) { e.Raw([]byte{0, 128, 255}) }), 0, 128, 255)
	k := someKey()
	wantBytes(t, "P1.2: Key", laid(func(e *wire.Enc) { e.Key(k) }), k[:]...)
}

// P1.2, P1.3: each call adds behind what was added; Len and Bytes in between.
func TestAddsGoBehindEachOther(t *testing.T) {
	var e wire.Enc
	var want []byte
	behind := func(what string, more ...byte) {
		t.Helper()
		want = append(want, more...)
		wantBytes(t, "P1.3: behind "+what, e.Bytes(), want...)
		if e.Len() != len(want) {
			t.Errorf("P1.3: Len behind %s: %d, want %d", what, e.Len(), len(want))
		}
	}
	behind("nothing")
	e.Var(300)
	behind("Var", 0xAC, 2)
	wire.Put(&e, int16(-2))
	behind("Put", 0xFE, 0xFF)
	e.Text("ab")
	behind("Text", 2, 'a', 'b')
	e.Raw([]byte{9, 8})
	behind("Raw", 9, 8)
	k := someKey()
	e.Key(k)
	behind("Key", k[:]...)
	e.Raw(nil)
	behind("no bytes")
}

// P1.2, P1.3: adding of many bytes, in pieces of any length.
func TestManyBytes(t *testing.T) {
	all := make([]byte, 3000)
	for i := range all {
		all[i] = byte(i * i / 7)
	}
	for _, step := range []int{1, 7, 100, 255, 256, 257, 512, 1000, 3000} {
		var e wire.Enc
		for at := 0; at < len(all); at += step {
			e.Raw(all[at:min(at+step, len(all))])
			if n := min(at+step, len(all)); e.Len() != n || !bytes.Equal(e.Bytes(), all[:n]) {
				t.Fatalf("P1.3: pieces of %d bytes: wrong at %d", step, n)
			}
		}
	}
}

// P1.3, P0.1: neither what is handed in nor what is answered is shared.
func TestEncSharesNothing(t *testing.T) {
	var e wire.Enc
	given := make([]byte, 2, 8)
	copy(given, "ab")
	e.Raw(given)
	e.Raw([]byte("cd"))
	wantBytes(t, "P0.1: spare room of what was handed in", given[:8], 'a', 'b', 0, 0, 0, 0, 0, 0)
	given[0] = 'z'
	wantBytes(t, "P0.1: what was handed in is not kept", e.Bytes(), []byte("abcd")...)
	got := e.Bytes()
	got[1] = 'z'
	spare := got[:cap(got)]
	for i := range spare {
		spare[i] = 'z'
	}
	e.Raw([]byte("e"))
	wantBytes(t, "P1.3: Bytes is new memory", e.Bytes(), []byte("abcde")...)
	wantBytes(t, "P1.3: adding is not seen in what was told", got, []byte("zzzz")...)
}

// P1.3: copies by assignment go on apart, at all lengths, and copies of copies.
func TestEncCopiesGoOnApart(t *testing.T) {
	for n := range 600 {
		same := strings.Repeat("s", n)
		var e wire.Enc
		for range n {
			e.Raw([]byte("s"))
		}
		f := e
		e.Raw([]byte("e"))
		g := e
		f.Raw([]byte("ff"))
		e.Text("E")
		g.Var(5)
		h := f
		h.Raw([]byte(strings.Repeat("h", 300)))
		f = e
		f.Raw([]byte("!"))
		for _, c := range []struct {
			of   *wire.Enc
			want string
		}{
			{&e, same + "e\x01E"},
			{&f, same + "e\x01E!"},
			{&g, same + "e\x05"},
			{&h, same + "ff" + strings.Repeat("h", 300)},
		} {
			if got := string(c.of.Bytes()); got != c.want || c.of.Len() != len(c.want) {
				t.Fatalf("P1.3: copies of %d bytes: %q, want %q", n, got, c.want)
			}
		}
	}
}

// P1.3: an Enc that was set back to an earlier copy of itself leaves later copies as they are.
func TestEncSetBack(t *testing.T) {
	var e wire.Enc
	e.Raw([]byte("ab"))
	early := e
	e.Raw([]byte("c"))
	late := e
	e = early
	e.Raw([]byte("x"))
	if string(late.Bytes()) != "abc" || string(e.Bytes()) != "abx" || string(early.Bytes()) != "ab" {
		t.Errorf("P1.3: %q, %q, %q", late.Bytes(), e.Bytes(), early.Bytes())
	}
}

// P1.2, P1.3: a nil Enc.
func TestNilEnc(t *testing.T) {
	var e *wire.Enc
	e.Var(1)
	e.Text("a")
	e.Raw([]byte{1})
	e.Key(someKey())
	wire.Put(e, int64(-1))
	if e.Len() != 0 || len(e.Bytes()) != 0 {
		t.Errorf("P1.3: a nil Enc has %d bytes: % x", e.Len(), e.Bytes())
	}
}
