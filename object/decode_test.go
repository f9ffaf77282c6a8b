package object_test

import (
	"bytes"
	"math"
	"slices"
	"strings"
	"testing"

	"gleaner/api"
	"gleaner/object"
)

// noObject: Decode says ErrObject, and nothing beside it.
func noObject(t *testing.T, what string, b []byte) {
	t.Helper()
	if o, no := object.Decode(b); no != api.ErrObject || !object.Same(o, api.Object{}) {
		t.Errorf("P4.3: %.90q: % x: %v, %v", what, b, no, o)
	}
}

// P4.3: no bytes, and kinds that are none.
func TestDecodeKind(t *testing.T) {
	noObject(t, "no bytes", nil)
	noObject(t, "no bytes", []byte{})
	for k := range 256 {
		if k >= 1 && k <= 4 {
			continue
		}
		noObject(t, "a kind that is none", []byte{byte(k)})
		noObject(t, "a kind that is none, with a count behind", []byte{byte(k), 0})
		noObject(t, "a kind that is none, long", append([]byte{byte(k)}, make([]byte, 8191)...))
	}
}

// P4.3: cut short at every place, and with one byte more behind. (A blob cut short is a blob.)
func TestDecodeCutShort(t *testing.T) {
	for _, s := range samples() {
		if s.o.Kind == api.Blob {
			continue
		}
		for n := range s.want {
			noObject(t, s.what+", cut short", s.want[:n])
		}
		for _, c := range []byte{0, 1, 255} {
			noObject(t, s.what+", one more", append(slices.Clone(s.want), c))
		}
	}
	for n := 1; n < 9; n++ {
		b := []byte("\x01abcdefgh")[:n]
		if o, no := object.Decode(b); no != api.OK || o.Kind != api.Blob || !bytes.Equal(o.Data, b[1:]) {
			t.Errorf("P4.3: a blob of %d bytes: %v, %v", n-1, no, o)
		}
	}
}

// P4.3: each number in more bytes than it takes.
func TestDecodeLongNumbers(t *testing.T) {
	k := some()
	for what, b := range map[string][]byte{
		"no parts":          laidOut(2, 0x80, 0),
		"no parts, longer":  laidOut(2, 0x80, 0x80, 0),
		"one part":          laidOut(2, 0x81, 0, k, 5),
		"a part's size":     laidOut(2, 1, k, 0x85, 0),
		"a part's size 0":   laidOut(2, 1, k, 0x80, 0),
		"no items":          laidOut(3, 0x80, 0),
		"one item":          laidOut(3, 0x81, 0, 1, "a", 1, 2, k),
		"a name's length":   laidOut(3, 1, 0x81, 0, "a", 1, 2, k),
		"an item's size":    laidOut(3, 1, 1, "a", 1, 0x82, 0, k),
		"no parents":        laidOut(4, k, 0x80, 0, strings.Repeat("\x00", 8), 0),
		"a note's length":   laidOut(4, k, 0, strings.Repeat("\x00", 8), 0x81, 0, "x"),
		"no note":           laidOut(4, k, 0, strings.Repeat("\x00", 8), 0x80, 0),
		"a size of 2^64":    laidOut(3, 1, 1, "a", 1, strings.Repeat("\x80", 9), 2, k),
		"a size of 11":      laidOut(3, 1, 1, "a", 1, strings.Repeat("\x80", 10), 1, k),
		"a count of 2^63":   laidOut(2, strings.Repeat("\x80", 9), 1),
		"a count of 2^64-1": laidOut(3, strings.Repeat("\xff", 9), 1),
	} {
		noObject(t, what, b)
	}
}

// P4.3: names, modes, order, counts, sums and notes that may not be, each laid down rightly.
func TestDecodeWhatMayNotBe(t *testing.T) {
	for n, ok := range names() {
		if b := plain(tree(item(n))); !ok && len(b) <= 8192 {
			noObject(t, "the name "+n, b)
		}
	}
	for m := range 256 {
		if m < 1 || m > 4 {
			noObject(t, "a mode that is none", plain(tree(api.Item{Name: "a", Mode: api.Mode(m)})))
		}
	}
	for what, o := range map[string]api.Object{
		"a Dir with a size":       tree(api.Item{Name: "a", Mode: api.Dir, Size: 1}),
		"a name twice":            tree(item("a"), item("a")),
		"names that fall":         tree(item("b"), item("a")),
		"a name that falls later": tree(item("a"), item("c"), item("b")),
		"129 parts":               list(make([]api.Part, 129)...),
		"129 items":               tree(items(129)...),
		"128 parents":             snap("", make([]api.Key, 128)...),
		"129 parents":             snap("", make([]api.Key, 129)...),
		"a great size":            list(api.Part{Size: 1 << 63}),
		"the greatest size":       list(api.Part{Size: math.MaxUint64}),
		"sizes of 2^63":           list(api.Part{Size: math.MaxInt64}, api.Part{Size: 1}),
		"sizes of 2^64":           list(api.Part{Size: math.MaxInt64}, api.Part{Size: math.MaxInt64}, api.Part{Size: 2}),
		"a long note":             snap(strings.Repeat("n", 1025)),
		"a note that is no UTF-8": snap("a\xff"),
	} {
		noObject(t, what, plain(o))
	}
}

// P4.3: 8192 bytes and 8193, and that ErrLarge comes ahead of ErrObject.
func TestDecodeLarge(t *testing.T) {
	for _, o := range []api.Object{sized(t, 8192), blob(make([]byte, 8191))} {
		b := plain(o)
		if got, no := object.Decode(b); no != api.OK || !object.Same(got, o) {
			t.Errorf("P4.3: 8192 bytes: %v", no)
		}
	}
	noObject(t, "8192 bytes of nothing", make([]byte, 8192))
	for _, b := range [][]byte{
		plain(sized(t, 8193)), plain(blob(make([]byte, 8192))), make([]byte, 8193), make([]byte, 1<<20), bytes.Repeat([]byte{1}, 8193),
	} {
		if o, no := object.Decode(b); no != api.ErrLarge || !object.Same(o, api.Object{}) {
			t.Errorf("P4.3: %d bytes: %v, %v", len(b), no, o)
		}
	}
}

// judged: Decode answers what the test's own reading of the chapter says; true: it is an object.
func judged(t *testing.T, b []byte) bool {
	t.Helper()
	want, ok := read(b)
	got, no := object.Decode(b)
	if ok != (no == api.OK) || !ok && no != api.ErrObject || !object.Same(got, want) {
		t.Fatalf("P4.3: % x: %v, %v, want %v", b, no, got, want)
	}
	if ok {
		if back, no := object.Encode(got); no != api.OK || !bytes.Equal(back, b) {
			t.Fatalf("P4.8: % x comes back as % x, %v", b, back, no)
		}
	}
	return ok
}

// P4.3, P4.8: of all runs of up to three bytes those that are objects, and no others.
func TestDecodeEveryShortRun(t *testing.T) {
	objects := 0
	for n := range 1 << 16 {
		for _, b := range [][]byte{{byte(n)}, {byte(n), byte(n >> 8)}, {1 + byte(n&3), byte(n >> 2), byte(n >> 10)}} {
			if judged(t, b) {
				objects++
			}
		}
	}
	if objects < 256 {
		t.Errorf("only %d runs are objects", objects)
	}
}

// P4.3, P4.8: encodings with a byte or two changed, taken out or put in.
func TestDecodeBentBytes(t *testing.T) {
	x := dice(5)
	objects := 0
	for range 60000 {
		b := plain(x.object())
		for range 1 + x.throw(2) {
			at := x.throw(len(b))
			if x.throw(2) == 0 {
				at = min(at, x.throw(6)) // where counts, lengths and modes stand
			}
			c := []byte{0, 1, 2, 3, 4, 5, '.', '/', 'a', 127, 128, 129, 255, byte(x.throw(256))}[x.throw(14)]
			switch x.throw(3) {
			case 0:
				b[at] = c
			case 1:
				b = slices.Insert(b, at, c)
			case 2:
				b = append(slices.Delete(b, at, at+1), c)
			}
		}
		if judged(t, b) {
			objects++
		}
	}
	if objects < 1000 || objects > 50000 {
		t.Errorf("%d of the bent ones are objects", objects)
	}
}

// P0.1: Decode answers new memory, and keeps nothing of what it is handed.
func TestDecodeIsNew(t *testing.T) {
	for _, s := range samples() {
		room := append(slices.Clone(s.want), "spare"...)
		given := room[:len(s.want)]
		first, _ := object.Decode(given)
		second, _ := object.Decode(given)
		if string(room) != string(s.want)+"spare" {
			t.Errorf("P0.1: %s: what was handed in is changed", s.what)
		}
		scribble(given, '!')
		if !object.Same(first, s.o) {
			t.Errorf("P0.1: %s: the object shares memory with the bytes", s.what)
		}
		scribble(first.Data, '!')
		scribble(first.Parts, api.Part{Size: 99})
		scribble(first.Items, item("!"))
		scribble(first.Parents, api.Key{99})
		if !object.Same(second, s.o) {
			t.Errorf("P0.1: %s: two answers share memory", s.what)
		}
		if third, _ := object.Decode(s.want); !object.Same(third, s.o) {
			t.Errorf("P0.1: %s: an answer shares memory with what is kept", s.what)
		}
	}
}
