package table_test

import (
	"math"
	"testing"

	"gleaner/table"
)

// same is a hash that gives equal keys one number, as any key's.
func same[K comparable](K) uint64 { return 0 }

var (
	none    = math.NaN()
	nought  = 0.0
	signed  = math.Copysign(0, -1)
	another = math.Float64frombits(math.Float64bits(math.NaN()) ^ 1<<63 ^ 5)
)

// unfound puts a key that is unlike itself so many times, and holds each answer against what it is to be: a plain table of the same hash tells the places.
func unfound[K comparable](t *testing.T, what string, k, other K, hash func(K) uint64) {
	t.Helper()
	x, p := table.New[K, int](hash), newPlain[K, int](hash)
	x.Put(other, 500)
	p.Put(other, 500)
	for n := range 60 {
		if v, ok := x.Put(k, n+1); v != 0 || ok {
			t.Fatalf("P11.8: %s: Put: %d, %v", what, v, ok)
		}
		p.Put(k, n+1)
		if v, ok := x.Get(k); v != 0 || ok {
			t.Fatalf("P11.8: %s: Get: %d, %v", what, v, ok)
		}
		if n%3 == 0 {
			v, ok := x.Del(k)
			if v != 0 || ok {
				t.Fatalf("P11.8: %s: Del: %d, %v", what, v, ok)
			}
			p.Del(k)
		}
		is(t, what+": P11.8: Len", x.Len(), n+2)
		is(t, what+": P11.4", books[K, int](x), books[K, int](p))
		is(t, what+": P11.4: Probes", x.Probes(k), p.Probes(k))
		is(t, what+": P11.4: Probes of another one", x.Probes(other), p.Probes(other))
	}
	var got, want []int
	for _, v := range x.All() {
		got = append(got, v)
	}
	for _, v := range p.All() {
		want = append(want, v)
	}
	is(t, what+": P11.8: how many All goes through", len(got), 61)
	for i := range got {
		is(t, what+": P11.5: what All tells", got[i], want[i])
	}
	if v, ok := x.Del(other); v != 500 || !ok {
		t.Errorf("P11.8: %s: Del of another one: %d, %v", what, v, ok)
	}
}

// P11.8: a key that is unlike itself is never found.
func TestUnlikeThemselves(t *testing.T) {
	unfound(t, "no number", none, 1, same)
	unfound(t, "no number, by its bits", none, 1, math.Float64bits)
	unfound(t, "another one that is no number", another, math.Inf(1), math.Float64bits)
	unfound(t, "float32", float32(none), 1, same)
	unfound(t, "complex", complex(0, none), complex(0, 1), same)
	unfound(t, "an array", [3]float64{1, none, 2}, [3]float64{1, 2, 2}, func(k [3]float64) uint64 { return math.Float64bits(k[0]) >> 50 })
	type pair struct {
		name  string
		ratio float64
	}
	unfound(t, "a struct", pair{"a", none}, pair{"a", 1}, func(k pair) uint64 { return uint64(len(k.name)) })
	unfound(t, "a struct with an array", struct{ list [1]pair }{[1]pair{{"a", none}}}, struct{ list [1]pair }{}, same)
	unfound(t, "an interface", any(none), any(1), same)
	times := uint64(0)
	unlike := func(k float64) uint64 {
		if k != k {
			times += 7
		}
		return times
	}
	x := table.New[float64, int](unlike) // of keys that are not equal it may tell as many numbers as it likes
	for n := range 100 {
		x.Put(none, n)
		x.Del(none)
		_, ok := x.Get(none)
		is(t, "P11.8: a hash that tells another number each time", ok, false)
	}
	is(t, "P11.8: a hash that tells another number each time", x.Len(), 100)
	var seen [100]int
	for _, v := range x.All() {
		seen[v]++
	}
	is(t, "P11.8: a hash that tells another number each time: what All goes through", seen, func() (all [100]int) {
		for n := range all {
			all[n] = 1
		}
		return all
	}())
}

// P11.8: the two that are no number are two keys, or more, and noughts of both signs one.
func TestAllFloats(t *testing.T) {
	x := table.New[float64, int](same)
	for n, k := range []float64{none, nought, another, 1, signed, -1, none} {
		v, ok := x.Put(k, n)
		is(t, "P11.8: whether it was there", ok, n == 4)
		is(t, "P11.8: what was there", v, map[int]int{4: 1}[n])
	}
	is(t, "P11.8: Len", x.Len(), 6)
	var got, want [6]uint64
	n := 0
	for k := range x.All() {
		got[n] = math.Float64bits(k)
		n++
	}
	for n, k := range []float64{none, nought, another, 1, -1, none} {
		want[n] = math.Float64bits(k)
	}
	is(t, "P11.8: bit by bit", got, want)
}

// lies is the sign of the one nought that a table has.
func lies(t *testing.T, x *table.Table[float64, string]) bool {
	t.Helper()
	n, minus := 0, false
	for k := range x.All() {
		if k == 0 {
			n++
			minus = math.Signbit(k)
		}
	}
	is(t, "P11.8: how many noughts there are", n, 1)
	return minus
}

// spread gives both noughts, and all numbers from 0 on that are less than one more, one number.
func spread(k float64) uint64 { return uint64(int64(math.Floor(k + 0))) }

// P11.3, P11.8: where the key is found in the younger array, the one that was handed in first stays; where in the elder one, the last one lies.
func TestWhichNought(t *testing.T) {
	for _, minus := range []bool{false, true} {
		first, last := nought, signed
		if minus {
			first, last = signed, nought
		}
		x := table.New[float64, string](spread)
		x.Put(first, "a")
		for _, c := range []struct {
			k         float64
			v, was    string
			sign      bool
			what, all string
		}{
			{last, "b", "a", minus, "in the only array", "1 8 0 0"},
			{first, "c", "b", minus, "in the only array, once more", "1 8 0 0"},
			{last, "d", "c", minus, "in the only array, and once more", "1 8 0 0"},
		} {
			v, ok := x.Put(c.k, c.v)
			is(t, "P11.8: "+c.what, answer(v, ok), answer(c.was, true))
			is(t, "P11.8: "+c.what+": which one lies there", lies(t, x), c.sign)
			is(t, "P11.8: "+c.what, books[float64, string](x), c.all)
		}
		for k := range 6 {
			x.Put(float64(k+1), "")
		}
		is(t, "P11.3", books[float64, string](x), "7 16 0 8")
		v, ok := x.Put(last, "e") // the step moves it ahead of that
		is(t, "P11.8: moved by the step", answer(v, ok), answer("d", true))
		is(t, "P11.8: moved by the step: which one lies there", lies(t, x), minus)
	}
}

// P11.3, P11.8: in the elder array, beyond the slots of the step.
func TestWhichNoughtElder(t *testing.T) {
	for _, minus := range []bool{false, true} {
		first, last := nought, signed
		if minus {
			first, last = signed, nought
		}
		hash := func(k float64) uint64 { return spread(k) + 12 }
		x := table.New[float64, string](hash)
		x.Put(first, "a")
		for k := range 12 {
			x.Put(float64(k+1), "")
		}
		is(t, "P11.3", books[float64, string](x), "13 32 0 16")
		is(t, "P11.8: moved by earlier steps: which one lies there", lies(t, x), minus)
		v, ok := x.Put(last, "b")
		is(t, "P11.8: in the elder array", answer(v, ok), answer("a", true))
		is(t, "P11.3", books[float64, string](x), "13 32 0 8")
		is(t, "P11.8: in the elder array: which one lies there", lies(t, x), !minus)
		v, ok = x.Put(first, "c")
		is(t, "P11.8: then in the younger one", answer(v, ok), answer("b", true))
		is(t, "P11.8: then in the younger one: which one lies there", lies(t, x), !minus)
		v, ok = x.Del(first)
		is(t, "P11.8: Del of the other one", answer(v, ok), answer("c", true))
		is(t, "P11.8: Len", x.Len(), 12)
		v, ok = x.Put(first, "d")
		is(t, "P11.8: put again", answer(v, ok), "-")
		is(t, "P11.8: put again: which one lies there", lies(t, x), minus)
	}
}

// P11.8: noughts in arrays and structs.
func TestNoughtsWithin(t *testing.T) {
	a := table.New[[2]float64, int](same)
	a.Put([2]float64{nought, 1}, 1)
	v, ok := a.Put([2]float64{signed, 1}, 2)
	is(t, "P11.8: an array: Put", v, 1)
	is(t, "P11.8: an array: Put", ok, true)
	for k, v := range a.All() {
		is(t, "P11.8: an array: which one lies there", math.Signbit(k[0]), false)
		is(t, "P11.8: an array: All", v, 2)
	}
	type point struct{ x, y float32 }
	b := table.New[point, int](same)
	b.Put(point{1, float32(signed)}, 1)
	v, ok = b.Put(point{1, 0}, 2)
	is(t, "P11.8: a struct: Put", v, 1)
	is(t, "P11.8: a struct: Put", ok, true)
	for k := range b.All() {
		is(t, "P11.8: a struct: which one lies there", math.Signbit(float64(k.y)), true)
	}
	v, ok = b.Get(point{1, 0})
	is(t, "P11.8: a struct: Get", v, 2)
	is(t, "P11.8: a struct: Get", ok, true)
	v, ok = b.Del(point{1, 0})
	is(t, "P11.8: a struct: Del", v, 2)
	is(t, "P11.8: a struct: Del", ok, true)
}
