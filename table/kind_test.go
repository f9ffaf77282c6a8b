package table_test

import (
	"errors"
	"math"
	"strconv"
	"testing"

	"gleaner/api"
	"gleaner/table"
)

// P11.9: hashes at both ends of their range.
func TestHashEnds(t *testing.T) {
	for _, from := range []uint64{0, 1, 1<<63 - 1, 1 << 63, 1<<63 + 1, 1<<32 - 1, 1 << 32, math.MaxUint64 - 7, math.MaxUint64 - 1, math.MaxUint64} {
		for _, hash := range []func(int) uint64{
			func(int) uint64 { return from },
			func(k int) uint64 { return from + uint64(k) },
			func(k int) uint64 { return from - uint64(k) },
		} {
			x, p := made(t, hash), newPlain[int, string](hash)
			for k := range 120 {
				line := "Put " + strconv.Itoa(k)
				if k%4 == 3 {
					line = "Del " + strconv.Itoa(k/2)
				}
				label := "P11.9: from " + strconv.FormatUint(from, 16) + ": " + line
				is(t, label, call(x, line), call(p, line))
				is(t, label, whole(x, []int{k, k + 1, 1000}), whole(p, []int{k, k + 1, 1000}))
				if t.Failed() {
					return
				}
			}
		}
	}
	both(t, "P11.9: the greatest", func(k int) uint64 { return math.MaxUint64 }, `
		Put 0..4            | -
		All                 | 1 2 3 4 0
		Probes 0..5         | 1 2 3 4 5 6`)
}

// P11.9: the table keeps what it is handed, and hands out what it keeps.
func TestLists(t *testing.T) {
	x := table.New[string, []int](func(k string) uint64 { return uint64(len(k)) })
	list := make([]int, 2, 9)
	x.Put("a", list)
	list[0] = 5
	got, _ := x.Get("a")
	is(t, "P11.9: a list's first number", got[0], 5)
	if &got[0] != &list[0] || len(got) != 2 || cap(got) != 9 {
		t.Errorf("P11.9: another list: %v, cap %d", got, cap(got))
	}
	for k := range 40 {
		x.Put(strconv.Itoa(k), []int{k})
	}
	for k, v := range x.All() {
		if k == "a" && &v[0] != &list[0] {
			t.Error("P11.9: All tells another list")
		}
	}
	got, ok := x.Put("a", nil)
	if !ok || &got[0] != &list[0] {
		t.Error("P11.9: Put answers another list")
	}
	got, ok = x.Get("a")
	if !ok || got != nil {
		t.Errorf("P11.9: a nil list: %v, %v", got, ok)
	}
	got, ok = x.Put("a", []int{})
	if !ok || got != nil {
		t.Errorf("P11.9: a nil list: %v, %v", got, ok)
	}
	got, ok = x.Del("a")
	if !ok || got == nil || len(got) != 0 {
		t.Errorf("P11.9: an empty list: %v, %v", got, ok)
	}
	got, ok = x.Del("a")
	if ok || got != nil {
		t.Errorf("P11.9: no list: %v, %v", got, ok)
	}
}

// kinds puts a table's keys in and takes them out again, whatever they are.
func kinds[K comparable](t *testing.T, what string, hash func(K) uint64, keys ...K) {
	t.Helper()
	x := table.New[K, int](hash)
	for n, k := range keys {
		if v, ok := x.Put(k, n+1); v != 0 || ok {
			t.Errorf("P11.3: %s: Put of %v: %d, %v", what, k, v, ok)
		}
	}
	is(t, "P11.4: "+what, x.Len(), len(keys))
	for k, v := range x.All() {
		if k != keys[v-1] {
			t.Errorf("P11.5: %s: All tells %v, %d", what, k, v)
		}
	}
	for n, k := range keys {
		if v, ok := x.Get(k); v != n+1 || !ok {
			t.Errorf("P11.3: %s: Get of %v: %d, %v", what, k, v, ok)
		}
		if v, ok := x.Del(k); v != n+1 || !ok {
			t.Errorf("P11.3: %s: Del of %v: %d, %v", what, k, v, ok)
		}
		if v, ok := x.Get(k); v != 0 || ok {
			t.Errorf("P11.3: %s: Get of %v, which is gone: %d, %v", what, k, v, ok)
		}
	}
	is(t, "P11.4: "+what, x.Len(), 0)
}

// P11.3, P11.9: keys of many kinds, their zero values among them.
func TestKinds(t *testing.T) {
	kinds(t, "numbers", itself, 0, -1, 1, math.MaxInt, math.MinInt, 8, 16, 24, 32, 40)
	kinds(t, "bytes", func(k uint8) uint64 { return uint64(k) }, 0, 255, 1, 254, 128, 127, 64)
	kinds(t, "bools", same, false, true)
	kinds(t, "texts", func(k string) uint64 { return uint64(len(k)) }, "", "a", "b", "\x00", "ab", "ba", "\xff\xfe", "abc")
	kinds(t, "floats", math.Float64bits, 0, 1, -1, math.Inf(1), math.Inf(-1), math.MaxFloat64, math.SmallestNonzeroFloat64, 0.5)
	kinds(t, "arrays", func(k [2]int) uint64 { return uint64(k[0]) }, [2]int{}, [2]int{0, 1}, [2]int{1, 0}, [2]int{8, 8}, [2]int{-1, 0})
	kinds(t, "keys", func(k api.Key) uint64 { return uint64(k[31]) }, api.Key{}, api.Key{0: 1}, api.Key{31: 1}, api.Key{31: 9}, api.Key{0: 2, 31: 1})
	kinds(t, "places", func(k api.Place) uint64 { return uint64(k.Off) }, api.Place{}, api.Place{Seg: 1}, api.Place{Off: 1}, api.Place{Seg: 1, Off: 1})
	kinds(t, "nothing", same, struct{}{})
	kinds(t, "pointers", same, nil, new(int), new(int))
	kinds(t, "interfaces", same, any(nil), any(0), any(int8(0)), any(""), any([0]int{}), any(api.ErrArg), any(error(nil) == nil))
	kinds(t, "channels", same, nil, make(chan int), make(chan int))
}

// P11.9: values of many kinds.
func TestValues(t *testing.T) {
	x := table.New[int, func() int](itself)
	x.Put(1, func() int { return 7 })
	x.Put(2, nil)
	f, ok := x.Get(1)
	is(t, "P11.9: a function", ok && f() == 7, true)
	f, ok = x.Put(2, f)
	is(t, "P11.9: a nil function", ok && f == nil, true)
	f, ok = x.Get(3)
	is(t, "P11.9: no function", !ok && f == nil, true)
	y := table.New[int, error](itself)
	y.Put(1, nil)
	was, ok := y.Put(1, api.ErrArg)
	is(t, "P11.9: a nil error", ok && was == nil, true)
	was, ok = y.Del(1)
	is(t, "P11.9: an error", ok && errors.Is(was, api.ErrArg), true)
	z := table.New[int, struct{}](itself)
	_, a := z.Put(1, struct{}{})
	_, b := z.Put(1, struct{}{})
	_, c := z.Del(1)
	_, d := z.Del(1)
	is(t, "P11.9: values without a byte", [4]bool{a, b, c, d}, [4]bool{false, true, true, false})
	w := table.New[int, *table.Table[int, int]](itself)
	w.Put(1, table.New[int, int](itself))
	inner, _ := w.Get(1)
	inner.Put(2, 3)
	again, _ := w.Get(1)
	v, ok := again.Get(2)
	is(t, "P11.9: tables", ok && v == 3, true)
}
