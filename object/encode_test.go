package object_test

import (
	"bytes"
	"crypto/sha256"
	"math"
	"slices"
	"strings"
	"testing"

	"gleaner/api"
	"gleaner/object"
	"gleaner/sha"
)

// some is a key whose bytes are all unlike.
func some() api.Key {
	var k api.Key
	for i := range k {
		k[i] = byte(0x40 + i)
	}
	return k
}

// laidOut joins bytes and texts.
func laidOut(parts ...any) []byte {
	var b []byte
	for _, p := range parts {
		switch x := p.(type) {
		case int:
			b = append(b, byte(x))
		case string:
			b = append(b, x...)
		case api.Key:
			b = append(b, x[:]...)
		}
	}
	return b
}

// samples is objects of each kind with their encodings, byte by byte.
func samples() []struct {
	what string
	o    api.Object
	want []byte
} {
	k, l := some(), keyOf(7)
	item := func(n string, m api.Mode, s uint64) api.Item { return api.Item{Name: n, Mode: m, Size: s, Key: k} }
	return []struct {
		what string
		o    api.Object
		want []byte
	}{
		{"the empty blob", blob(nil), laidOut(1)},
		{"an empty blob that is not nil", blob([]byte{}), laidOut(1)},
		{"a blob", blob([]byte("hi")), laidOut(1, "hi")},
		{"a blob of zeros", blob([]byte{0, 0}), laidOut(1, 0, 0)},
		{"a blob as an encoding", blob([]byte{2, 0}), laidOut(1, 2, 0)},
		{"the empty list", list(), laidOut(2, 0)},
		{"an empty list that is not nil", api.Object{Kind: api.List, Parts: []api.Part{}}, laidOut(2, 0)},
		{"a list", list(api.Part{Key: k, Size: 300}), laidOut(2, 1, k, 0xAC, 2)},
		{"a list of sizes", list(api.Part{Key: l}, api.Part{Key: k, Size: 127}, api.Part{Key: l, Size: 128}),
			laidOut(2, 3, l, 0, k, 127, l, 128, 1)},
		{"a list of the greatest size", list(api.Part{Key: k, Size: math.MaxInt64}),
			laidOut(2, 1, k, strings.Repeat("\xff", 8), 127)},
		{"a list of 128", list(slices.Repeat([]api.Part{{Key: k, Size: 5}}, 128)...),
			laidOut(2, 128, 1, strings.Repeat(string(laidOut(k, 5)), 128))},
		{"the empty tree", tree(), laidOut(3, 0)},
		{"a tree", tree(item("a", api.File, 2)), laidOut(3, 1, 1, "a", 1, 2, k)},
		{"a tree of all modes", tree(item("a", api.File, 128), item("bé", api.Long, 0), item("c", api.Dir, 0), item("cc", api.Link, math.MaxUint64)),
			laidOut(3, 4, 1, "a", 1, 128, 1, k, 3, "b\xc3\xa9", 2, 0, k, 1, "c", 3, 0, k, 2, "cc", 4, strings.Repeat("\xff", 9), 1, k)},
		{"a tree with a long name", tree(item(strings.Repeat("n", 64), api.File, 0)), laidOut(3, 1, 64, strings.Repeat("n", 64), 1, 0, k)},
		{"the empty snapshot", api.Object{Kind: api.Snap}, laidOut(4, api.Key{}, 0, strings.Repeat("\x00", 8), 0)},
		{"a snapshot", api.Object{Kind: api.Snap, Tree: k, Time: -1, Note: "x"}, laidOut(4, k, 0, strings.Repeat("\xff", 8), 1, "x")},
		{"a snapshot with parents", api.Object{Kind: api.Snap, Tree: k, Parents: []api.Key{l, k}, Time: 0x0102030405060708},
			laidOut(4, k, 2, l, k, "\x08\x07\x06\x05\x04\x03\x02\x01", 0)},
		{"a snapshot below nought", api.Object{Kind: api.Snap, Tree: k, Parents: []api.Key{}, Time: -300},
			laidOut(4, k, 0, "\xd4\xfe\xff\xff\xff\xff\xff\xff", 0)},
		{"a snapshot of the least time", api.Object{Kind: api.Snap, Time: math.MinInt64, Note: "\x00"},
			laidOut(4, api.Key{}, 0, "\x00\x00\x00\x00\x00\x00\x00\x80", 1, 0)},
		{"a snapshot of the greatest time", api.Object{Kind: api.Snap, Time: math.MaxInt64},
			laidOut(4, api.Key{}, 0, "\xff\xff\xff\xff\xff\xff\xff\x7f", 0)},
		{"a snapshot with a long note", api.Object{Kind: api.Snap, Note: strings.Repeat("n", 1024)},
			laidOut(4, api.Key{}, 0, strings.Repeat("\x00", 8), 0x80, 8, strings.Repeat("n", 1024))},
		{"a snapshot with 127 parents", api.Object{Kind: api.Snap, Tree: l, Parents: slices.Repeat([]api.Key{k}, 127)},
			laidOut(4, l, 127, strings.Repeat(string(k[:]), 127), strings.Repeat("\x00", 8), 0)},
	}
}

// P4.2, P4.3, P4.4: of each sample its encoding, the way back, and its key.
func TestSamples(t *testing.T) {
	for _, s := range samples() {
		b, no := object.Encode(s.o)
		if no != api.OK || !bytes.Equal(b, s.want) {
			t.Errorf("P4.2: %s: %v, % x, want % x", s.what, no, b, s.want)
		}
		if o, no := object.Decode(s.want); no != api.OK || !object.Same(o, s.o) {
			t.Errorf("P4.3: %s: %v, %v", s.what, no, o)
		}
		if k, no := object.KeyOf(s.o); no != api.OK || k != sha256.Sum256(s.want) || k != sha.Sum(b) {
			t.Errorf("P4.4: %s: %v, %x", s.what, no, k)
		}
		taken(t, s.what, s.o)
	}
}

// P4.2: trees and blobs as long as they may be.
func TestEncodeLong(t *testing.T) {
	x := dice(3)
	for _, o := range []api.Object{blob(x.bytes(8191)), sized(t, 8192), sized(t, 8191), sized(t, 8150)} {
		b, no := object.Encode(o)
		if no != api.OK || !bytes.Equal(b, plain(o)) {
			t.Errorf("P4.2: %v, %d bytes of %d", no, len(b), len(plain(o)))
		}
		if k, no := object.KeyOf(o); no != api.OK || k != sha256.Sum256(plain(o)) {
			t.Errorf("P4.4: %v, %x", no, k)
		}
	}
}

// P4.2, P4.4: any objects that may be.
func TestEncodeAny(t *testing.T) {
	x := dice(4)
	for range 2000 {
		o := x.object()
		want := plain(o)
		if b, no := object.Encode(o); no != api.OK || !bytes.Equal(b, want) {
			t.Fatalf("P4.2: %v: %v, % x, want % x", o, no, b, want)
		}
		if k, no := object.KeyOf(o); no != api.OK || k != sha256.Sum256(want) {
			t.Fatalf("P4.4: %v: %v, %x", o, no, k)
		}
	}
}

// scribble writes all over some bytes and their spare room.
func scribble[T any](list []T, v T) {
	list = list[:cap(list)]
	for i := range list {
		list[i] = v
	}
}

// P0.1: Encode answers new memory.
func TestEncodeIsNew(t *testing.T) {
	for _, s := range samples() {
		first, _ := object.Encode(s.o)
		second, _ := object.Encode(s.o)
		scribble(first, '!')
		if !bytes.Equal(second, s.want) {
			t.Errorf("P0.1: %s: two answers share memory", s.what)
		}
		if !bytes.Equal(plain(s.o), s.want) {
			t.Errorf("P0.1: %s: the object shares memory with its encoding", s.what)
		}
		if third, _ := object.Encode(s.o); !bytes.Equal(third, s.want) {
			t.Errorf("P0.1: %s: an answer shares memory with what is kept", s.what)
		}
	}
	data := []byte("abc")
	b, _ := object.Encode(blob(data))
	copy(data, "zzz")
	if string(b) != "\x01abc" {
		t.Errorf("P0.1: an encoding shares memory with the Data: %q", b)
	}
}

// P0.1: no call changes what it is handed, or the spare room behind it.
func TestObjectStaysAsItIs(t *testing.T) {
	data := []byte("abcdef")
	parts := []api.Part{{Key: keyOf(1), Size: 1}, {Key: keyOf(2), Size: 2}, {Key: keyOf(3), Size: 3}}
	list := []api.Item{item("a"), item("b"), item("c")}
	up := []api.Key{keyOf(1), keyOf(2), keyOf(3)}
	for _, o := range []api.Object{
		blob(data[:2]), {Kind: api.List, Parts: parts[:2]}, {Kind: api.Tree, Items: list[:2]},
		{Kind: api.Snap, Parents: up[:2]}, {Kind: 9, Data: data[:1], Parts: parts[:1], Items: list[:1], Parents: up[:1]},
	} {
		object.Check(o)
		object.Encode(o)
		object.KeyOf(o)
		object.Same(o, o)
		scribble(object.Kids(o), api.Key{99})
	}
	if string(data) != "abcdef" {
		t.Errorf("P0.1: Data is changed: %q", data)
	}
	for i := range 3 {
		if parts[i] != (api.Part{Key: keyOf(i + 1), Size: uint64(i + 1)}) || list[i] != item(string(rune('a'+i))) || up[i] != keyOf(i+1) {
			t.Errorf("P0.1: what was handed in is changed: %v, %v, %v", parts[i], list[i], up[i])
		}
	}
}
