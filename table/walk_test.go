package table_test

import (
	"slices"
	"strconv"
	"testing"

	"gleaner/table"
)

// P11.5: the elder array's full slots, rising, then the younger one's, whatever the keys are.
func TestAllOrder(t *testing.T) {
	both(t, "P11.5: one array", itself, `
		All                 |
		Put 5 -1 8 2        | -
		All                 | 8 2 5 -1
		Del 2               | '2'
		All                 | 8 5 -1
		Put 16              | -
		Put 5=a             | '5'
		All                 | 8 16 5=a -1`)
	both(t, "P11.5: two arrays", func(k int) uint64 { return uint64(-k) }, `
		Put 0..12           | -
		All                 | 0 12 11 10 9 8 7 6 5 4 3 2 1
		books               | 13 32 0 16
		Put 100             | -
		books               | 14 32 0 8
		All                 | 8 7 6 5 4 3 2 1 0 12 11 10 9 100
		Put 3=a             | '3'
		books               | 14 32 0 0
		All                 | 0 1 12 11 10 9 8 7 6 5 100 4 3=a 2`)
}

// moving is a table of 0 to 24 under themselves, that moves: 0 to 7 lie in the younger array.
func moving(t *testing.T) *table.Table[int, string] {
	t.Helper()
	x := made(t, itself)
	plays(t, "P11.3", x, `
		Put 0..24           | -
		Del 999             | -
		books               | 25 64 0 24`)
	return x
}

// P11.5: a walk may be gone through more than once, at once too, and left early.
func TestAllAgain(t *testing.T) {
	x := moving(t)
	walk := x.All()
	var want []int
	for k := range 25 {
		want = append(want, (k+8)%25)
	}
	for left := range 26 {
		var got []int
		for k := range walk {
			if len(got) == left {
				break
			}
			got = append(got, k)
		}
		if !slices.Equal(got, want[:left]) {
			t.Errorf("P11.5: left at %d: %v", left, got)
		}
	}
	pairs := 0
	for k := range walk {
		for j := range walk {
			pairs++
			if j == k {
				break
			}
		}
	}
	is(t, "P11.5: a walk in a walk", pairs, 25*26/2)
	is(t, "P11.5: behind all that", books[int, string](x), "25 64 0 24")
}

// P11.5: one that leaves is told nothing more.
func TestAllLeft(t *testing.T) {
	x := moving(t)
	for stop := range 25 {
		n := 0
		x.All()(func(int, string) bool {
			n++
			return n <= stop
		})
		is(t, "P11.5: told, when it is left", n, stop+1)
	}
}

// P11.5: a walk during which the table is changed ends.
func TestAllChanged(t *testing.T) {
	changes := map[string]func(x *table.Table[int, string], k int){
		"Put of ever new ones": func(x *table.Table[int, string], k int) { x.Put(x.Len()+1000, "new"); x.Put(x.Len()+2000, "new") },
		"Put of many":          func(x *table.Table[int, string], k int) { call(x, "Put 0..99=many") },
		"Put of this one":      func(x *table.Table[int, string], k int) { x.Put(k, "again") },
		"Del of this one":      func(x *table.Table[int, string], k int) { x.Del(k) },
		"Del of others":        func(x *table.Table[int, string], k int) { x.Del(k + 1); x.Del(24 - k) },
		"Del of all":           func(x *table.Table[int, string], k int) { call(x, "Del 0..24") },
		"Del, and Put":         func(x *table.Table[int, string], k int) { x.Del(k); x.Put(k, "back") },
		"Del, and another Put": func(x *table.Table[int, string], k int) { x.Del(k); x.Put(k+64, "on") },
		"another walk": func(x *table.Table[int, string], k int) {
			for j := range x.All() {
				x.Del(j)
				break
			}
		},
	}
	for what, change := range changes {
		for _, begin := range []string{"Put 0..6", "Put 0..11", "Put 0..24"} {
			x := made(t, itself)
			call(x, begin)
			n := 0
			for k := range x.All() {
				change(x, k)
				if n++; n > 1000 {
					t.Fatalf("P11.5: %s: the walk does not end", what)
				}
			}
			seen := 0
			for k, v := range x.All() {
				seen++
				if got, ok := x.Get(k); !ok || got != v {
					t.Errorf("P11.5: %s: behind it Get(%d) is %s", what, k, answer(got, ok))
				}
			}
			is(t, "P11.5: "+what+": how many there are behind it", seen, x.Len())
		}
	}
}

// P11.5: values are told as they were put, keys too.
func TestAllPairs(t *testing.T) {
	x := moving(t)
	n := 0
	for k, v := range x.All() {
		n++
		if v != strconv.Itoa(k) {
			t.Errorf("P11.5: %d, %s", k, v)
		}
	}
	is(t, "P11.5: how many", n, 25)
}
