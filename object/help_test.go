package object_test

import (
	"encoding/binary"
	"math/big"
	"strconv"
	"strings"
	"testing"
	"unicode/utf8"

	"gleaner/api"
	"gleaner/object"
)

// dice throws numbers that look like chance and are the same in each run.
type dice uint64

func (x *dice) throw(n int) int {
	*x = *x*6364136223846793005 + 1442695040888963407
	return int(uint64(*x)>>33) % n
}

// wide is a number of any count of bits.
func (x *dice) wide() uint64 {
	v := uint64(x.throw(1<<30))<<34 ^ uint64(x.throw(1<<30))<<17 ^ uint64(x.throw(1<<30))
	return v >> x.throw(64)
}

func (x *dice) bytes(n int) []byte {
	b := make([]byte, n)
	for i := range b {
		b[i] = byte(x.throw(256))
	}
	return b
}

func (x *dice) key() api.Key { return api.Key(x.bytes(32)) }

// object is one that may be, of any kind.
func (x *dice) object() api.Object {
	o := api.Object{Kind: api.Kind(1 + x.throw(4))}
	switch o.Kind {
	case api.Blob:
		o.Data = x.bytes(x.throw(40))
	case api.List:
		for range x.throw(5) {
			o.Parts = append(o.Parts, api.Part{Key: x.key(), Size: x.wide() >> 4})
		}
	case api.Tree:
		for n := range x.throw(5) {
			i := api.Item{Name: string(rune('a'+n)) + []string{"", ".", "é", "long"}[x.throw(4)], Mode: api.Mode(1 + x.throw(4)), Key: x.key()}
			if i.Mode != api.Dir {
				i.Size = x.wide()
			}
			o.Items = append(o.Items, i)
		}
	case api.Snap:
		o.Tree, o.Time, o.Note = x.key(), int64(x.wide())-1<<40, strings.Repeat("né", x.throw(4))
		for range x.throw(4) {
			o.Parents = append(o.Parents, x.key())
		}
	}
	return o
}

// keyOf is a key of its own for a number.
func keyOf(n int) api.Key {
	k := api.Key{0: 0xA0, 31: 0x0A}
	binary.LittleEndian.PutUint64(k[8:], uint64(n))
	return k
}

func blob(b []byte) api.Object          { return api.Object{Kind: api.Blob, Data: b} }
func list(parts ...api.Part) api.Object { return api.Object{Kind: api.List, Parts: parts} }
func tree(items ...api.Item) api.Object { return api.Object{Kind: api.Tree, Items: items} }
func snap(note string, up ...api.Key) api.Object {
	return api.Object{Kind: api.Snap, Note: note, Parents: up}
}

func item(name string) api.Item { return api.Item{Name: name, Mode: api.File} }

// items is n of them, with names that rise.
func items(n int) []api.Item {
	out := make([]api.Item, n)
	for i := range out {
		out[i] = item("n" + strconv.Itoa(1000+i))
	}
	return out
}

// sized is a tree whose encoding has so many bytes (from 8100 on or so).
func sized(t *testing.T, size int) api.Object {
	t.Helper()
	o := tree()
	at := 2
	for n := 0; ; n++ {
		const rest = 1 + 1 + 1 + 32 // the name's length, Mode, Size and Key
		long := min(64, size-at-rest)
		if left := size - at - rest - long; left > 0 && left < rest+4 {
			long -= rest + 4 - left // so that the last name still has its number in it
		}
		name := "n" + strconv.Itoa(100+n)
		name += strings.Repeat("x", long-len(name))
		o.Items = append(o.Items, api.Item{Name: name, Mode: api.Link, Size: 7, Key: keyOf(n)})
		if at += rest + long; at == size {
			break
		}
	}
	if got := len(plain(o)); got != size {
		t.Fatalf("the test's own tree has %d bytes, not %d", got, size)
	}
	return o
}

// plain is an object's encoding in the chapter's words, made without the package and without wire.
func plain(o api.Object) []byte {
	b := []byte{byte(o.Kind)}
	switch o.Kind {
	case api.Blob:
		b = append(b, o.Data...)
	case api.List:
		b = binary.AppendUvarint(b, uint64(len(o.Parts)))
		for _, p := range o.Parts {
			b = binary.AppendUvarint(append(b, p.Key[:]...), p.Size)
		}
	case api.Tree:
		b = binary.AppendUvarint(b, uint64(len(o.Items)))
		for _, i := range o.Items {
			b = append(binary.AppendUvarint(b, uint64(len(i.Name))), i.Name...)
			b = binary.AppendUvarint(append(b, byte(i.Mode)), i.Size)
			b = append(b, i.Key[:]...)
		}
	case api.Snap:
		b = binary.AppendUvarint(append(b, o.Tree[:]...), uint64(len(o.Parents)))
		for _, k := range o.Parents {
			b = append(b, k[:]...)
		}
		b = binary.LittleEndian.AppendUint64(b, uint64(o.Time))
		b = append(binary.AppendUvarint(b, uint64(len(o.Note))), o.Note...)
	}
	return b
}

// reader reads an encoding without the package and without wire.
type reader struct {
	b   []byte
	bad bool
}

func (r *reader) cut(n uint64) []byte {
	if r.bad || n > uint64(len(r.b)) {
		r.bad = true
		return make([]byte, min(n, 32))
	}
	out := r.b[:n]
	r.b = r.b[n:]
	return out
}

func (r *reader) number() uint64 {
	v, n := binary.Uvarint(r.b)
	if n <= 0 || len(binary.AppendUvarint(nil, v)) != n {
		r.bad = true
		return 0
	}
	r.cut(uint64(n))
	return v
}

func (r *reader) key() api.Key { return api.Key(r.cut(32)) }

// read is the object whose encoding these bytes are, by the chapter's words; false: they are none's.
func read(b []byte) (api.Object, bool) {
	r := reader{b: b}
	o := api.Object{Kind: api.Kind(r.cut(1)[0])}
	switch o.Kind {
	case api.Blob:
		o.Data = r.cut(uint64(len(r.b)))
	case api.List:
		for n := r.number(); n > 0 && !r.bad; n-- {
			k := r.key()
			o.Parts = append(o.Parts, api.Part{Key: k, Size: r.number()})
		}
	case api.Tree:
		for n := r.number(); n > 0 && !r.bad; n-- {
			i := api.Item{Name: string(r.cut(r.number()))}
			i.Mode = api.Mode(r.cut(1)[0])
			i.Size = r.number()
			i.Key = r.key()
			o.Items = append(o.Items, i)
		}
	case api.Snap:
		o.Tree = r.key()
		for n := r.number(); n > 0 && !r.bad; n-- {
			o.Parents = append(o.Parents, r.key())
		}
		o.Time = int64(binary.LittleEndian.Uint64(r.cut(8)))
		o.Note = string(r.cut(r.number()))
	default:
		r.bad = true
	}
	if r.bad || len(r.b) > 0 || len(b) > 8192 || !mayBe(o) {
		return api.Object{}, false
	}
	return o, true
}

// mayBe tells whether an object with fields of its own kind alone may be, but for its length.
func mayBe(o api.Object) bool {
	ok := len(o.Parts) <= 128 && len(o.Items) <= 128 && len(o.Parents) <= 127
	sum := new(big.Int)
	for _, p := range o.Parts {
		sum.Add(sum, new(big.Int).SetUint64(p.Size))
	}
	ok = ok && sum.IsInt64()
	for n, i := range o.Items {
		ok = ok && len(i.Name) >= 1 && len(i.Name) <= 64 && utf8.ValidString(i.Name)
		ok = ok && !strings.ContainsAny(i.Name, "/\x00") && i.Name != "." && i.Name != ".."
		ok = ok && (n == 0 || strings.Compare(o.Items[n-1].Name, i.Name) < 0)
		ok = ok && strings.IndexByte("\x01\x02\x03\x04", byte(i.Mode)) >= 0 && (i.Mode != 3 || i.Size == 0)
	}
	return ok && len(o.Note) <= 1024 && utf8.ValidString(o.Note)
}

// refused: Check and Encode say so, Encode with no bytes, KeyOf with no key.
func refused(t *testing.T, what string, o api.Object, want api.Errno) {
	t.Helper()
	if got := object.Check(o); got != want {
		t.Errorf("P4.1: %.90q: Check %v, want %v", what, got, want)
	}
	if b, got := object.Encode(o); got != want || len(b) != 0 {
		t.Errorf("P4.2: %.90q: Encode %v with %d bytes, want %v", what, got, len(b), want)
	}
	if k, got := object.KeyOf(o); got != want || k != (api.Key{}) {
		t.Errorf("P4.4: %.90q: KeyOf %v with %x, want %v", what, got, k, want)
	}
}

// taken: Check takes it.
func taken(t *testing.T, what string, o api.Object) {
	t.Helper()
	if got := object.Check(o); got != api.OK {
		t.Errorf("P4.1: %.90q: Check %v, want OK", what, got)
	}
}
