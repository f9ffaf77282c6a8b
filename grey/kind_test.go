package grey_test

import (
	"errors"
	"math"
	"slices"
	"strconv"
	"testing"

	"gleaner/api"
	"gleaner/grey"
)

// kinds does one of everything with some values of a type, of which there are at least two.
func kinds[T comparable](t *testing.T, what string, values ...T) {
	t.Helper()
	holds(t, what, made(t, values...), values)
	d := made[T](t)
	for _, v := range values {
		d.PushTop(v)
	}
	holds(t, what+": pushed at the top", d, values)
	d.Turn(len(values) + 1)
	holds(t, what+": turned", d, append(slices.Clone(values[1:]), values[0]))
	d.Turn(math.MinInt)
	d.Turn(math.MinInt + 1)
	d.Turn(math.MaxInt)
	d.Turn(math.MaxInt)
	holds(t, what+": turned", d, values)
	for i := range values {
		is(t, what+": Set", d.Set(i, values[len(values)-1-i]), true)
	}
	for _, want := range values {
		v, ok := d.PopTop()
		if !ok || v != want {
			t.Errorf("%s: PopTop: %v, %v, not %v", what, v, ok, want)
		}
	}
	holds(t, what+": behind all", d, nil)
	for _, v := range values {
		d.PushBottom(v)
	}
	for _, want := range values[:len(values)-1] {
		v, ok := d.PopTop()
		if !ok || v != want {
			t.Errorf("%s: PopTop: %v, %v, not %v", what, v, ok, want)
		}
	}
	holds(t, what+": the last one", d, values[len(values)-1:])
	var zero T
	d.PopBottom()
	v, ok := d.PopBottom()
	is(t, what+": the zero value beside a false", !ok && v == zero, true)
}

// pair is a value of two parts.
type pair struct {
	name string
	n    int
}

// P15.1 to P15.4: values of many types, their zero values among them.
func TestKinds(t *testing.T) {
	kinds(t, "texts", "", "a", "b", "a", "\x00", "\xff\xfe", "a longer one")
	kinds(t, "pairs", pair{}, pair{"a", 1}, pair{"a", 2}, pair{"", 1}, pair{"b", math.MinInt})
	kinds(t, "floats", 0, 1.5, -1.5, math.Inf(1), math.Inf(-1), math.MaxFloat64, math.SmallestNonzeroFloat64)
	kinds(t, "bytes", uint8(0), 255, 1, 128)
	kinds(t, "bools", false, true, true, false)
	kinds(t, "numbers", 0, math.MaxInt, math.MinInt, -1, 1)
	kinds(t, "keys", api.Key{}, api.Key{1}, api.Key{31: 1})
	kinds(t, "greys", api.Grey{}, api.Grey{Next: 1}, api.Grey{Key: api.Key{1}}, api.Grey{Key: api.Key{1}, Next: math.MaxInt})
	kinds(t, "pointers", nil, new(int), new(int))
	kinds(t, "interfaces", any(nil), any(0), any(""), any(int8(0)), any([1]int{2}))
	kinds[error](t, "errors", nil, api.ErrArg, errors.New("a"))
	kinds(t, "rows", nil, made(t, 1), made(t, 1), made[int](t))
	kinds(t, "values without a byte", struct{}{}, struct{}{}, struct{}{})
}

// P15.1 to P15.4: floats bit by bit: what is not equal to itself, and both noughts.
func TestFloats(t *testing.T) {
	bits := []uint64{math.Float64bits(math.NaN()), 0, 1 << 63, 0x7ff8000000000123, 0xfff0000000000001, 0x7ff0000000000000}
	d := made[float64](t)
	for _, b := range bits {
		d.PushTop(math.Float64frombits(b))
	}
	d.Turn(2)
	d.Turn(-2)
	for i, v := range d.All() {
		is(t, "P15.4: number "+strconv.Itoa(i), math.Float64bits(v), bits[i])
		v, ok := d.At(i)
		is(t, "P15.2: number "+strconv.Itoa(i), math.Float64bits(v), bits[i])
		is(t, "P15.2: number "+strconv.Itoa(i), d.Set(i, v) && ok, true)
	}
	for _, b := range bits {
		v, ok := d.PopBottom()
		is(t, "P15.1: "+strconv.FormatUint(b, 16), math.Float64bits(v), b)
		is(t, "P15.1: "+strconv.FormatUint(b, 16), ok, true)
	}
	is(t, "P15.1: Len", d.Len(), 0)
}

// P15.1, P15.2: values that cannot be compared, and rows of rows: what is told is what was put in.
func TestUncompared(t *testing.T) {
	lists := made(t, []int{1}, nil, []int{})
	lists.PushBottom([]int{2, 3})
	v, ok := lists.At(0)
	is(t, "lists", ok && slices.Equal(v, []int{2, 3}), true)
	v, ok = lists.At(2)
	is(t, "a nil list", ok && v == nil, true)
	v, ok = lists.PopTop()
	is(t, "an empty list", ok && v != nil && len(v) == 0, true)
	v, ok = lists.At(9)
	is(t, "no list", !ok && v == nil, true)

	calls := made(t, func() int { return 1 })
	calls.PushTop(func() int { return 2 })
	calls.Turn(1)
	f, ok := calls.PopTop()
	is(t, "functions", ok && f() == 1, true)
	f, ok = calls.PopTop()
	is(t, "functions", ok && f() == 2, true)
	f, ok = calls.PopTop()
	is(t, "no function", !ok && f == nil, true)

	rows := made(t, made(t, "a"), nil)
	inner, _ := rows.PopBottom()
	inner.PushTop("b")
	rows.PushTop(inner)
	again, _ := rows.At(1)
	holds(t, "a row in a row", again, texts("a b"))
	var none *grey.Deque[string]
	none, ok = rows.At(0)
	is(t, "a nil row in a row", ok && none == nil, true)
}
