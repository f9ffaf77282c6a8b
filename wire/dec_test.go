package wire_test

import (
	"errors"
	"math"
	"slices"
	"strings"
	"testing"

	"gleaner/api"
	"gleaner/wire"
)

// wantEnd: End is this Fault itself, or nil, if the code is OK.
func wantEnd(t *testing.T, what string, d *wire.Dec, at int, code api.Errno) {
	t.Helper()
	var want error
	if code != api.OK {
		want = wire.Fault{At: at, Code: code}
	}
	if got := d.End(); got != want {
		t.Errorf("%s: End %v, want %v", what, got, want)
	}
}

// wantStopped: it is stopped so, and stays so through every take.
func wantStopped(t *testing.T, what string, d *wire.Dec, at int, code api.Errno) {
	t.Helper()
	for range 2 {
		wantEnd(t, what, d, at, code)
		if d.At() != at || d.Left() != 0 {
			t.Errorf("%s: At %d, Left %d, want %d, 0", what, d.At(), d.Left(), at)
		}
		wantZeroTakes(t, what, d)
	}
}

func wantZeroTakes(t *testing.T, what string, d *wire.Dec) {
	t.Helper()
	if v := d.Var(math.MaxUint64); v != 0 {
		t.Errorf("%s: Var %d", what, v)
	}
	if s := d.Text(math.MaxInt); s != "" {
		t.Errorf("%s: Text %q", what, s)
	}
	if b := d.Raw(0); len(b) != 0 {
		t.Errorf("%s: Raw(0) % x", what, b)
	}
	if b := d.Raw(1); len(b) != 0 {
		t.Errorf("%s: Raw(1) % x", what, b)
	}
	if k := d.Key(); k != (api.Key{}) {
		t.Errorf("%s: Key % x", what, k)
	}
	if v := wire.Take[uint8](d); v != 0 {
		t.Errorf("%s: Take[uint8] %d", what, v)
	}
	if v := wire.Take[int64](d); v != 0 {
		t.Errorf("%s: Take[int64] %d", what, v)
	}
	one := func(*wire.Dec) int { t.Fatalf("%s: Each calls", what); return 1 }
	if l := wire.Each(d, math.MaxInt, one); len(l) != 0 {
		t.Errorf("%s: Each %v", what, l)
	}
	if l := wire.Each[int](d, 9, nil); len(l) != 0 {
		t.Errorf("%s: Each without a function %v", what, l)
	}
}

// ahead is some bytes with three others ahead of them, so that a Fault's place is not 0.
func ahead(t *testing.T, b ...byte) *wire.Dec {
	t.Helper()
	d := wire.Open(append([]byte{7, 7, 7}, b...))
	if got := d.Raw(3); string(got) != "\a\a\a" {
		t.Fatalf("P1.4: Raw(3) % x", got)
	}
	return d
}

// P1.1: the text, and what is wrapped.
func TestFault(t *testing.T) {
	for _, c := range []struct {
		f    wire.Fault
		want string
	}{
		{wire.Fault{At: 3, Code: api.ErrEnds}, "at 3: error 10"},
		{wire.Fault{At: 0, Code: api.OK}, "at 0: error 0"},
		{wire.Fault{At: -12, Code: api.ErrLeft}, "at -12: error 13"},
		{wire.Fault{At: math.MaxInt32, Code: 999}, "at 2147483647: error 999"},
	} {
		if got := c.f.Error(); got != c.want {
			t.Errorf("P1.1: Error %q, want %q", got, c.want)
		}
		if got := c.f.Unwrap(); got != error(c.f.Code) {
			t.Errorf("P1.1: Unwrap %v, want %v", got, c.f.Code)
		}
		for _, e := range []api.Errno{api.OK, api.ErrNil, api.ErrEnds, api.ErrForm, api.ErrBeyond, api.ErrLeft} {
			if got := errors.Is(c.f, e); got != (e == c.f.Code) {
				t.Errorf("P1.1: errors.Is(%v, %v) is %v", c.f, e, got)
			}
		}
	}
}

type wrapping struct{ err error }

func (w wrapping) Error() string { return "wrapped" }
func (w wrapping) Unwrap() error { return w.err }

// P1.1: what is found in an error that wraps a Fault.
func TestFaultWithin(t *testing.T) {
	f := wire.Fault{At: 5, Code: api.ErrForm}
	for _, err := range []error{f, wrapping{f}, wrapping{wrapping{f}}, errors.Join(api.ErrNil, wrapping{f})} {
		var got wire.Fault
		if !errors.As(err, &got) || got != f {
			t.Errorf("P1.1: errors.As in %v finds %v", err, got)
		}
		if !errors.Is(err, api.ErrForm) || errors.Is(err, api.ErrEnds) {
			t.Errorf("P1.1: errors.Is in %v", err)
		}
	}
	var none wire.Fault
	if errors.As(error(wrapping{api.ErrForm}), &none) {
		t.Error("P1.1: errors.As finds a Fault where there is none")
	}
	var code api.Errno
	if !errors.As(error(f), &code) || code != api.ErrForm {
		t.Errorf("P1.1: errors.As finds the code %v", code)
	}
}

// P1.4, P1.5: Var.
func TestTakeVar(t *testing.T) {
	many := func(n int, last ...byte) []byte { return append(slices.Repeat([]byte{128}, n), last...) }
	for _, c := range []struct {
		what string
		b    []byte
		most uint64
		want uint64
		took int
		code api.Errno
	}{
		{"0", []byte{0}, 0, 0, 1, api.OK},
		{"127", []byte{127}, 127, 127, 1, api.OK},
		{"128", []byte{0x80, 1}, 128, 128, 2, api.OK},
		{"300", []byte{0xAC, 2}, 300, 300, 2, api.OK},
		{"with more behind", []byte{0xAC, 2, 9}, 300, 300, 2, api.OK},
		{"2^63", many(9, 1), 1 << 63, 1 << 63, 10, api.OK},
		{"the greatest", append(slices.Repeat([]byte{255}, 9), 1), math.MaxUint64, math.MaxUint64, 10, api.OK},
		{"beyond 0", []byte{1}, 0, 0, 0, api.ErrBeyond},
		{"beyond 126", []byte{127}, 126, 0, 0, api.ErrBeyond},
		{"beyond 299", []byte{0xAC, 2}, 299, 0, 0, api.ErrBeyond},
		{"beyond the greatest but one", append(slices.Repeat([]byte{255}, 9), 1), math.MaxUint64 - 1, 0, 0, api.ErrBeyond},
		{"none", nil, 9, 0, 0, api.ErrEnds},
		{"one byte of two", []byte{128}, math.MaxUint64, 0, 0, api.ErrEnds},
		{"nine bytes of ten", many(9), math.MaxUint64, 0, 0, api.ErrEnds},
		{"nine bytes of ten, and above most", slices.Repeat([]byte{255}, 9), 0, 0, 0, api.ErrEnds},
		{"a tenth byte of 2", many(9, 2), math.MaxUint64, 0, 0, api.ErrForm},
		{"a tenth byte of 128", many(9, 128), math.MaxUint64, 0, 0, api.ErrForm},
		{"a tenth byte of 129, more behind", many(9, 129, 1), math.MaxUint64, 0, 0, api.ErrForm},
		{"a tenth byte of 0", many(9, 0), math.MaxUint64, 0, 0, api.ErrForm},
		{"0 in two bytes", []byte{128, 0}, 9, 0, 0, api.ErrForm},
		{"1 in two bytes", []byte{129, 0}, 9, 0, 0, api.ErrForm},
		{"above most in too many bytes", []byte{0xFF, 0x80, 0}, 9, 0, 0, api.ErrForm},
	} {
		d := ahead(t, c.b...)
		if got := d.Var(c.most); got != c.want {
			t.Errorf("P1.5: Var %s: %d, want %d", c.what, got, c.want)
		}
		if c.code != api.OK {
			wantStopped(t, "P1.5: Var "+c.what, d, 3, c.code)
		} else if d.At() != 3+c.took || d.Left() != len(c.b)-c.took {
			t.Errorf("P1.4: Var %s: At %d, Left %d", c.what, d.At(), d.Left())
		}
	}
}

// takeOne: of bytes that are enough, and of one byte fewer.
func takeOne[N wire.Whole](t *testing.T, what string, want N, b ...byte) {
	t.Helper()
	d := ahead(t, append(b, 77)...)
	if got := wire.Take[N](d); got != want {
		t.Errorf("P1.4: Take[%s]: %d, want %d", what, got, want)
	}
	if d.At() != 3+len(b) || d.Left() != 1 {
		t.Errorf("P1.4: Take[%s]: At %d, Left %d", what, d.At(), d.Left())
	}
	for n := range b {
		d = ahead(t, b[:n]...)
		if got := wire.Take[N](d); got != 0 {
			t.Errorf("P1.5: Take[%s] of %d bytes: %d", what, n, got)
		}
		wantStopped(t, "P1.5: Take["+what+"]", d, 3, api.ErrEnds)
	}
}

// P1.4, P1.5: Take.
func TestTake(t *testing.T) {
	takeOne[int8](t, "int8", -1, 255)
	takeOne[int8](t, "int8", math.MinInt8, 128)
	takeOne[uint8](t, "uint8", 255, 255)
	takeOne[int16](t, "int16", -2, 254, 255)
	takeOne[int16](t, "int16", 0x7F01, 1, 0x7F)
	takeOne[uint16](t, "uint16", 0xFF02, 2, 255)
	takeOne[int32](t, "int32", math.MinInt32, 0, 0, 0, 128)
	takeOne[uint32](t, "uint32", 0x84030201, 1, 2, 3, 0x84)
	takeOne[int64](t, "int64", -2, 254, 255, 255, 255, 255, 255, 255, 255)
	takeOne[int64](t, "int64", math.MaxInt64, 255, 255, 255, 255, 255, 255, 255, 127)
	takeOne[uint64](t, "uint64", 0x8807060504030201, 1, 2, 3, 4, 5, 6, 7, 0x88)
	takeOne[small](t, "small", -5, 0xFB)
	takeOne[great](t, "great", 1<<63, 0, 0, 0, 0, 0, 0, 0, 128)
}

// P1.4, P1.5: Text.
func TestTakeText(t *testing.T) {
	long := strings.Repeat("y", 200)
	for _, c := range []struct {
		what string
		b    string
		most int
		want string
		took int
		code api.Errno
	}{
		{"empty", "\x00", 0, "", 1, api.OK},
		{"empty, with a bound below 0", "\x00z", -1, "", 1, api.OK},
		{"empty, with the least bound", "\x00", math.MinInt, "", 1, api.OK},
		{"as long as it may be", "\x02ab", 2, "ab", 3, api.OK},
		{"with more behind", "\x02abc", math.MaxInt, "ab", 3, api.OK},
		{"no UTF-8", "\x02\xff\x00", 9, "\xff\x00", 3, api.OK},
		{"long", "\xc8\x01" + long, 200, long, 202, api.OK},
		{"one above its bound", "\x02ab", 1, "", 0, api.ErrBeyond},
		{"above its bound, and too short", "\x02a", 1, "", 0, api.ErrBeyond},
		{"above a bound below 0", "\x01a", -1, "", 0, api.ErrBeyond},
		{"one byte too short", "\x02a", 2, "", 0, api.ErrEnds},
		{"no byte but the length", "\x01", 2, "", 0, api.ErrEnds},
		{"a long one that is too short", "\xc8\x01" + long[1:], 200, "", 0, api.ErrEnds},
		{"the greatest length", "\xff\xff\xff\xff\xff\xff\xff\xff\x7f", math.MaxInt, "", 0, api.ErrEnds},
		{"a length above all that may be", "\xff\xff\xff\xff\xff\xff\xff\xff\xff\x01", math.MaxInt, "", 0, api.ErrBeyond},
		{"none", "", 2, "", 0, api.ErrEnds},
		{"a length that ends", "\x80", 2, "", 0, api.ErrEnds},
		{"a length that no adding makes", "\x81\x00a", 2, "", 0, api.ErrForm},
	} {
		d := ahead(t, []byte(c.b)...)
		if got := d.Text(c.most); got != c.want {
			t.Errorf("P1.5: Text %s: %q, want %q", c.what, got, c.want)
		}
		if c.code != api.OK {
			wantStopped(t, "P1.5: Text "+c.what, d, 3, c.code)
		} else if d.At() != 3+c.took || d.Left() != len(c.b)-c.took {
			t.Errorf("P1.4: Text %s: At %d, Left %d", c.what, d.At(), d.Left())
		}
	}
}

// P1.4, P1.5: Raw.
func TestTakeRaw(t *testing.T) {
	for _, c := range []struct {
		n    int
		want string
		code api.Errno
	}{
		{math.MinInt, "", api.OK},
		{-1, "", api.OK},
		{0, "", api.OK},
		{1, "a", api.OK},
		{3, "abc", api.OK},
		{4, "", api.ErrEnds},
		{math.MaxInt - 2, "", api.ErrEnds},
		{math.MaxInt, "", api.ErrEnds},
	} {
		d := ahead(t, 'a', 'b', 'c')
		if got := string(d.Raw(c.n)); got != c.want {
			t.Errorf("P1.5: Raw(%d): %q, want %q", c.n, got, c.want)
		}
		if c.code != api.OK {
			wantStopped(t, "P1.5: Raw", d, 3, c.code)
		} else if d.At() != 3+len(c.want) || d.Left() != 3-len(c.want) {
			t.Errorf("P1.4: Raw(%d): At %d, Left %d", c.n, d.At(), d.Left())
		}
	}
}

// P1.4, P1.5: Key.
func TestTakeKey(t *testing.T) {
	k := someKey()
	d := ahead(t, append(k[:], 1)...)
	if got := d.Key(); got != k {
		t.Errorf("P1.4: Key % x, want % x", got, k)
	}
	wantEnd(t, "P1.4: Key", d, 35, api.ErrLeft)
	for _, n := range []int{0, 1, 31} {
		d = ahead(t, k[:n]...)
		if got := d.Key(); got != (api.Key{}) {
			t.Errorf("P1.5: Key of %d bytes: % x", n, got)
		}
		wantStopped(t, "P1.5: Key", d, 3, api.ErrEnds)
	}
}

// P1.4, P0.1: neither what is handed in nor what is answered is shared.
func TestDecSharesNothing(t *testing.T) {
	room := []byte("abcdefgh")
	given := room[:4]
	d := wire.Open(given)
	copy(given, "zzzz")
	twin := *d
	first := d.Raw(2)
	if string(first) != "ab" {
		t.Errorf("P1.4: what becomes of the bytes later is seen: %q", first)
	}
	spare := first[:cap(first)]
	for i := range spare {
		spare[i] = '!'
	}
	if got := string(d.Raw(2)); got != "cd" {
		t.Errorf("P0.1: what was told has the Dec's bytes in its spare room: %q", got)
	}
	if got := string(twin.Raw(4)); got != "abcd" {
		t.Errorf("P0.1: what was told is not new memory: %q", got)
	}
	if string(room) != "zzzzefgh" {
		t.Errorf("P0.1: what was handed in is changed: %q", room)
	}
}

// P1.4: a zero Dec, and one of no bytes.
func TestDecOfNoBytes(t *testing.T) {
	for _, open := range []func() *wire.Dec{
		func() *wire.Dec { return new(wire.Dec) },
		func() *wire.Dec { return wire.Open(nil) },
		func() *wire.Dec { return wire.Open([]byte{}) },
	} {
		d := open()
		wantEnd(t, "P1.4: no bytes", d, 0, api.OK)
		if b := d.Raw(0); len(b) != 0 || d.At() != 0 || d.Left() != 0 {
			t.Errorf("P1.4: no bytes: At %d, Left %d", d.At(), d.Left())
		}
		wantEnd(t, "P1.4: no bytes behind Raw(0)", d, 0, api.OK)
		d.Var(9)
		wantStopped(t, "P1.4: no bytes", d, 0, api.ErrEnds)
	}
}

// P1.5: a Dec that is stopped has bytes left that would answer, and does not take them.
func TestStoppedStays(t *testing.T) {
	d := wire.Open(append([]byte{1, 0xAC, 2}, make([]byte, 99)...))
	if d.Var(9) != 1 || d.Var(299) != 0 {
		t.Error("P1.5: Var")
	}
	wantStopped(t, "P1.5: stopped", d, 1, api.ErrBeyond)
}

// P1.6: lists.
func TestEach(t *testing.T) {
	for _, c := range []struct {
		what string
		b    []byte
		most int
		want []int8
		at   int
		code api.Errno
	}{
		{"two", []byte{2, 5, 0xFE}, 9, []int8{5, -2}, 6, api.OK},
		{"as many as may be", []byte{2, 5, 0xFE}, 2, []int8{5, -2}, 6, api.OK},
		{"none", []byte{0}, 9, nil, 4, api.OK},
		{"none, with a bound below 0", []byte{0}, -1, nil, 4, api.OK},
		{"none, with the least bound", []byte{0}, math.MinInt, nil, 4, api.OK},
		{"bytes behind it", []byte{1, 5, 6}, 9, []int8{5}, 5, api.ErrLeft},
	} {
		d := ahead(t, c.b...)
		if got := wire.Each(d, c.most, wire.Take[int8]); !slices.Equal(got, c.want) {
			t.Errorf("P1.6: %s: %v, want %v", c.what, got, c.want)
		}
		wantEnd(t, "P1.6: "+c.what, d, c.at, c.code)
		if d.At() != c.at {
			t.Errorf("P1.6: %s: At %d, want %d", c.what, d.At(), c.at)
		}
	}
}

// P1.6: lists that stop the Dec; how often the function is called.
func TestEachStops(t *testing.T) {
	for _, c := range []struct {
		what  string
		b     []byte
		most  int
		calls int
		at    int
		code  api.Errno
	}{
		{"a count above its bound", []byte{2, 5, 6}, 1, 0, 3, api.ErrBeyond},
		{"a count above a bound below 0", []byte{1, 5}, -1, 0, 3, api.ErrBeyond},
		{"no count", nil, 9, 0, 3, api.ErrEnds},
		{"a count that no adding makes", []byte{0x81, 0, 5}, 9, 0, 3, api.ErrForm},
		{"in the midst", []byte{3, 5}, 9, 2, 5, api.ErrEnds},
		{"at the first", []byte{3}, 9, 1, 4, api.ErrEnds},
		{"a huge count", []byte{0xFF, 0xFF, 0xFF, 0xFF, 0xFF, 0xFF, 0xFF, 0xFF, 0x7F, 5, 6}, math.MaxInt, 3, 14, api.ErrEnds},
	} {
		d := ahead(t, c.b...)
		calls := 0
		got := wire.Each(d, c.most, func(d *wire.Dec) int8 {
			if calls++; calls > c.calls {
				t.Fatalf("P1.6: %s: more than %d calls", c.what, c.calls)
			}
			return wire.Take[int8](d)
		})
		if len(got) != 0 || calls != c.calls {
			t.Errorf("P1.6: %s: %v by %d calls, want none by %d", c.what, got, calls, c.calls)
		}
		wantStopped(t, "P1.6: "+c.what, d, c.at, c.code)
	}
}

// P1.6: the last one stops the Dec, so that there is no list though all were called.
func TestEachStopsAtTheLast(t *testing.T) {
	d := wire.Open([]byte{2, 5, 0x80})
	if l := wire.Each(d, 9, func(d *wire.Dec) uint64 { return d.Var(9) }); len(l) != 0 {
		t.Errorf("P1.6: %v", l)
	}
	wantStopped(t, "P1.6: at the last", d, 2, api.ErrEnds)
}

// P1.6: without a function; of a nil Dec; of one that was stopped ahead of it.
func TestEachOfNil(t *testing.T) {
	for _, b := range [][]byte{{2, 5, 6}, {0}, {0x81, 0}, nil} {
		d := ahead(t, b...)
		if l := wire.Each[int](d, 0, nil); len(l) != 0 {
			t.Errorf("P1.6: without a function: %v", l)
		}
		wantStopped(t, "P1.6: without a function", d, 3, api.ErrNil)
	}
	d := ahead(t, 0x80)
	d.Var(9)
	wire.Each[int](d, 9, nil)
	wantStopped(t, "P1.6: stopped ahead of it", d, 3, api.ErrEnds)
	var none *wire.Dec
	wantZeroTakes(t, "P1.6: a nil Dec", none)
}

// P1.6: lists of lists, of texts, and of what takes nothing.
func TestEachWithin(t *testing.T) {
	d := wire.Open([]byte{2, 1, 1, 'a', 2, 1, 'b', 0})
	texts := func(d *wire.Dec) []string {
		return wire.Each(d, 9, func(d *wire.Dec) string { return d.Text(9) })
	}
	got := wire.Each(d, 9, texts)
	if len(got) != 2 || !slices.Equal(got[0], []string{"a"}) || !slices.Equal(got[1], []string{"b", ""}) {
		t.Errorf("P1.6: %q", got)
	}
	wantEnd(t, "P1.6: lists of lists", d, 0, api.OK)
	d = wire.Open([]byte{3})
	n := 0
	if l := wire.Each(d, 9, func(*wire.Dec) int { n++; return n }); !slices.Equal(l, []int{1, 2, 3}) {
		t.Errorf("P1.6: in their order: %v", l)
	}
	wantEnd(t, "P1.6: nothing taken", d, 0, api.OK)
}

// P1.7: At, Left and End of one that goes on, and of one with bytes left over.
func TestWhereItStands(t *testing.T) {
	d := wire.Open([]byte{1, 2, 'x', 'y', 4})
	if d.At() != 0 || d.Left() != 5 {
		t.Errorf("P1.7: At %d, Left %d", d.At(), d.Left())
	}
	wantEnd(t, "P1.7: nothing taken", d, 0, api.ErrLeft)
	d.Var(9)
	wantEnd(t, "P1.7: left over", d, 1, api.ErrLeft)
	if got := d.Text(9); got != "xy" || d.At() != 4 || d.Left() != 1 {
		t.Errorf("P1.7: taking goes on behind End: %q, At %d, Left %d", got, d.At(), d.Left())
	}
	wantEnd(t, "P1.7: one left over", d, 4, api.ErrLeft)
	d.Raw(1)
	wantEnd(t, "P1.7: none left over", d, 0, api.OK)
	if d.At() != 5 || d.Left() != 0 {
		t.Errorf("P1.7: At %d, Left %d", d.At(), d.Left())
	}
}

// P1.7: what End answers is a Fault that is found by errors.As and errors.Is.
func TestEndIsAFault(t *testing.T) {
	d := wire.Open([]byte{1, 2})
	d.Var(9)
	for _, code := range []api.Errno{api.ErrLeft, api.ErrEnds} {
		err := d.End()
		if f, ok := err.(wire.Fault); !ok || f != (wire.Fault{At: 1, Code: code}) {
			t.Errorf("P1.7: End %v is no Fault", err)
		}
		var f wire.Fault
		if !errors.Is(err, code) || !errors.As(err, &f) || f.At != 1 {
			t.Errorf("P1.7: End %v wraps no %v", err, code)
		}
		d.Raw(9)
	}
}

// P1.7: a nil Dec.
func TestNilDec(t *testing.T) {
	var d *wire.Dec
	wantStopped(t, "P1.7: a nil Dec", d, 0, api.ErrNil)
	if b := d.Raw(-1); len(b) != 0 {
		t.Errorf("P1.7: a nil Dec: % x", b)
	}
}
