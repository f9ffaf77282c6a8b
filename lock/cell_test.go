package lock_test

import (
	"math"
	"strconv"
	"testing"

	"gleaner/lock"
	"gleaner/sched"
)

func acts(w *world) string { return strconv.Itoa(w.c.Acts()) }

// P9.5: what each call answers, and how many there were behind each act.
func TestCell(t *testing.T) {
	scenes(t, "P9.5", acts, []scene{
		{threads("c.Load c.Store7 c.Load c.Swap5 c.Load"), "", "0:0 | 0 0:1 | 0 -:2 | 0 7:3 | 0 7:4 | 0 5:5 | OK"},
		{threads("c.Cas07 c.Cas08 c.Load c.Cas78 c.Load"), "", "0:0 | 0 true:1 | 0 false:2 | 0 7:3 | 0 true:4 | 0 8:5 | OK"},
		{threads("c.Swap4 c.Swap5 c.Swap5 c.Cas55 c.Swap0"), "", "0:0 | 0 0:1 | 0 4:2 | 0 5:3 | 0 true:4 | 0 5:5 | OK"},
		// Each is done behind its step: the load sees what came meanwhile.
		{threads("c.Load", "c.Store7"), "0110", "0:0 | 1:0 | 1 -:1 | 0 7:2 | OK"},
		{threads("c.Load", "c.Store7"), "0101", "0:0 | 1:0 | 0 0:1 | 1 -:2 | OK"},
		{threads("c.Swap3", "c.Store7"), "0110", "0:0 | 1:0 | 1 -:1 | 0 7:2 | OK"},
		{threads("c.Cas03 c.Load", "c.Store7"), "01100", "0:0 | 1:0 | 1 -:1 | 0 false:2 | 0 7:3 | OK"},
		{threads("c.Cas73 c.Load", "c.Store7"), "01100", "0:0 | 1:0 | 1 -:1 | 0 true:2 | 0 3:3 | OK"},
		{threads("c.Cas01 c.Load", "c.Cas02 c.Load"), "01", "0:0 | 1:0 | 0 true:1 | 1 false:2 | 0 1:3 | 1 1:4 | OK"},
	})
	w := made()
	is(t, "P9.5: alone", w.alone("c.Load c.Store7 c.Swap5 ^c.Swap4 c.Cas55 ^c.Cas45 c.Cas56 c.Load ^c.Load ^c.Store1 c.Load", func() string { return acts(w) }), "0 - 7 5 false true true 6 6 - 1 :11")
}

// told is what a cell of each kind is to do with a value that is there, another one, and one that is equal to that.
func told[T comparable](t *testing.T, what string, here, other, equal T) {
	t.Helper()
	c := lock.NewCell(here)
	if got := c.Load(nil); got != here {
		t.Errorf("P9.5: %s: new: %v, not %v", what, got, here)
	}
	if c.Cas(nil, other, other) || c.Load(nil) != here {
		t.Errorf("P9.5: %s: Cas of what is not there: %v", what, c.Load(nil))
	}
	if got := c.Swap(nil, other); got != here || c.Load(nil) != other {
		t.Errorf("P9.5: %s: Swap: %v, and %v is left", what, got, c.Load(nil))
	}
	if !c.Cas(nil, equal, here) || c.Load(nil) != here {
		t.Errorf("P9.5: %s: Cas of what is there: %v", what, c.Load(nil))
	}
	c.Store(nil, other)
	if c.Load(nil) != other {
		t.Errorf("P9.5: %s: Store: %v", what, c.Load(nil))
	}
	if c.Acts() != 9 {
		t.Errorf("P9.5: %s: %d acts", what, c.Acts())
	}
}

type inner struct {
	text string
	list [2]int
}

type whole struct {
	inner
	ratio float64
	on    *int
}

// P9.5: cells of many kinds.
func TestCellKinds(t *testing.T) {
	told(t, "int", math.MaxInt, math.MinInt, math.MinInt)
	told(t, "int8", int8(-128), 127, 127)
	told(t, "bool", false, true, true)
	told(t, "string", "", "a\x00b", string([]byte{'a', 0, 'b'}))
	told(t, "float64", math.Inf(1), 2.5, 2.5)
	told(t, "noughts", 1, 0, math.Copysign(0, -1))
	told(t, "noughts", 1, math.Copysign(0, -1), 0)
	told(t, "complex", complex(1, 2), complex(1, 3), complex(1, 3))
	told(t, "array", [2]string{"a", ""}, [2]string{"", "b"}, [2]string{"", "b"})
	n := 5
	told(t, "pointer", nil, &n, &n)
	told(t, "struct", whole{}, whole{inner{"a", [2]int{1, 2}}, 0.5, &n}, whole{inner{"a", [2]int{1, 2}}, 0.5, &n})
	told(t, "struct with noughts", whole{on: &n}, whole{ratio: math.Copysign(0, -1)}, whole{})
	told[any](t, "any", nil, inner{text: "a"}, inner{text: "a"})
	told[any](t, "any", 1, int8(1), int8(1))
}

// P9.5: a struct is equal only if all of it is.
func TestCellStruct(t *testing.T) {
	n, o := 5, 5
	here := whole{inner{"a", [2]int{1, 2}}, 0.5, &n}
	c := lock.NewCell(here)
	for _, other := range []whole{
		{inner{"b", [2]int{1, 2}}, 0.5, &n}, {inner{"a", [2]int{1, 3}}, 0.5, &n}, {inner{"a", [2]int{1, 2}}, 0.25, &n}, {inner{"a", [2]int{1, 2}}, 0.5, &o}, {},
	} {
		if c.Cas(nil, other, whole{}) || c.Load(nil) != here {
			t.Errorf("P9.5: %v was taken for %v", other, here)
		}
	}
}

// P9.5: a NaN is equal to nothing, wherever it stands; noughts are equal to one another, and told with the sign that was put in.
func TestCellFloats(t *testing.T) {
	nan, minus := math.NaN(), math.Copysign(0, -1)
	c := lock.NewCell(nan)
	for _, old := range []float64{nan, 0, minus, math.Inf(1), c.Load(nil)} {
		if c.Cas(nil, old, 1) || c.Load(nil) == c.Load(nil) {
			t.Errorf("P9.5: %v is equal to NaN", old)
		}
	}
	if got := c.Swap(nil, minus); got == got || !math.Signbit(c.Load(nil)) || !math.Signbit(c.Swap(nil, 0)) || math.Signbit(c.Load(nil)) {
		t.Error("P9.5: noughts and their signs, by Swap")
	}
	if !c.Cas(nil, minus, minus) || !math.Signbit(c.Load(nil)) || c.Cas(nil, nan, 1) || !c.Cas(nil, 0, 0) || math.Signbit(c.Load(nil)) {
		t.Error("P9.5: noughts and their signs, by Cas")
	}
	c.Store(nil, minus)
	if !math.Signbit(c.Load(nil)) || !math.Signbit(lock.NewCell(minus).Load(nil)) || math.Signbit(lock.NewCell(0.0).Load(nil)) {
		t.Error("P9.5: noughts and their signs, by Store and NewCell")
	}
	if c.Store(nil, nan); c.Load(nil) == c.Load(nil) {
		t.Error("P9.5: a NaN that was put in")
	}
	if s := lock.NewCell(whole{ratio: nan}); s.Cas(nil, s.Load(nil), whole{}) || s.Load(nil).ratio == s.Load(nil).ratio {
		t.Error("P9.5: a NaN in a struct is equal to nothing")
	}
	if a := lock.NewCell([2]float64{1, nan}); a.Cas(nil, a.Load(nil), [2]float64{}) || a.Load(nil)[0] != 1 {
		t.Error("P9.5: a NaN in an array is equal to nothing")
	}
}

// P9.5, P0.1: what cannot be compared is equal to nothing, and no call panics at it, with a baton or without.
func TestCellUncomparable(t *testing.T) {
	try := func(b *sched.Baton) {
		c := lock.NewCell[any]([]int{1})
		if c.Cas(b, []int{1}, 2) || c.Cas(b, nil, 2) || c.Cas(b, []string{}, 2) || c.Cas(b, 1, 2) || c.Acts() != 4 {
			t.Error("P9.5: a list is equal to nothing")
		}
		if s, ok := c.Swap(b, map[int]int{}).([]int); !ok || s[0] != 1 || c.Cas(b, map[int]int{}, 3) || c.Cas(b, func() {}, 3) {
			t.Error("P9.5: what cannot be compared is held all the same")
		}
		if c.Store(b, 1); c.Cas(b, []int{1}, 2) || !c.Cas(b, 1, 2) || c.Load(b) != 2 || c.Acts() != 11 {
			t.Errorf("P9.5: behind it: %v, %d acts", c.Load(b), c.Acts())
		}
	}
	try(nil)
	if r, no := sched.Run([]func(*sched.Baton){try}, nil, 100); no != 0 || len(r.Acts) != 12 {
		t.Errorf("P9.5: a cell of any in a run: %v, %s", r.Acts, name(no))
	}
}

// P9.5: two cells, and a cell and what was read from it, go their ways apart.
func TestCellApart(t *testing.T) {
	list := [2]int{1, 2}
	c, d := lock.NewCell(list), lock.NewCell(list)
	list[0] = 9
	got := c.Load(nil)
	got[1] = 9
	c.Store(nil, [2]int{3, 4})
	if d.Load(nil) != [2]int{1, 2} || c.Load(nil) != [2]int{3, 4} || c.Acts() != 3 || d.Acts() != 1 {
		t.Errorf("P9.5: %v, %v", c.Load(nil), d.Load(nil))
	}
}
