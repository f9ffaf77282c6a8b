package table_test

import (
	"testing"

	"gleaner/table"
)

// P11.1: what a new table tells.
func TestNew(t *testing.T) {
	x := made(t, itself)
	plays(t, "P11.1: a new table", x, `
		books               | 0 8 0 0
		All                 |
		Get -1..9           | -
		Probes -1..9        | 1 1 1 1 1 1 1 1 1 1 1
		Del 3               | -
		books               | 0 8 0 0`)
}

// P11.1: without a hash there is none.
func TestNewNil(t *testing.T) {
	if table.New[int, string](nil) != nil || table.New[[2]float64, []int](nil) != nil || table.New[any, any](nil) != nil {
		t.Error("P11.1: a table without a hash")
	}
	var hash func(string) uint64
	if table.New[string, error](hash) != nil {
		t.Error("P11.1: a table with a nil hash")
	}
}

// P11.1: two tables of one hash go their ways apart.
func TestApart(t *testing.T) {
	x, y := made(t, itself), made(t, itself)
	plays(t, "P11.1: one", x, `
		Put 0..6            | -
		books               | 7 16 0 8`)
	plays(t, "P11.1: the other", y, `
		books               | 0 8 0 0
		Put 1=a             | -
		Del 0..2            | - 'a' -
		books               | 0 8 1 0`)
	plays(t, "P11.1: the one again", x, `
		books               | 7 16 0 8
		All                 | 0 1 2 3 4 5 6`)
}

// The chapter's examples.
func TestChapter(t *testing.T) {
	both(t, "the examples", itself, `
		Put 1=a 9=b         | -
		Probes 1 9 17 2     | 1 2 3 2
		Del 1               | 'a'
		books               | 1 8 1 0
		Put 17=c            | -
		Probes 17 9         | 1 2
		books               | 2 8 0 0
		All                 | 17=c 9=b`)
	both(t, "the examples", itself, `
		Put 0..5            | -
		books               | 6 8 0 0
		Put 6               | -
		books               | 7 16 0 8
		Put 7=x             | -
		books               | 8 16 0 0
		All                 | 0 1 2 3 4 5 6 7=x`)
	both(t, "the examples", itself, `
		Put 0..5            | -
		Del 0..5            | '0' '1' '2' '3' '4' '5'
		books               | 0 8 6 0
		Put 6=x             | -
		books               | 1 8 0 8`)
}

// nothing holds every call's answer against what a nil table's is to be.
func nothing[K comparable, V any](t *testing.T, what string, x *table.Table[K, V], k K, v V, isZero func(V) bool) {
	t.Helper()
	for range 9 {
		put, a := x.Put(k, v)
		got, b := x.Get(k)
		del, c := x.Del(k)
		if !isZero(put) || !isZero(got) || !isZero(del) {
			t.Errorf("%s: Put %v, Get %v, Del %v", what, put, got, del)
		}
		if a || b || c {
			t.Errorf("%s: Put %v, Get %v, Del %v", what, a, b, c)
		}
	}
	is(t, what, books[K, V](x), "0 0 0 0")
	is(t, what+": Probes", x.Probes(k), 0)
	walk := x.All()
	if walk == nil {
		t.Fatalf("%s: no walk", what)
	}
	for k, v := range walk {
		t.Errorf("%s: All tells %v, %v", what, k, v)
	}
	for range walk {
		t.Errorf("%s: All tells something when it is gone through again", what)
	}
}

// P11.6: a nil table; P0.1: one that New refused, and a zero one, are as nil ones.
func TestNil(t *testing.T) {
	noText := func(v string) bool { return v == "" }
	noList := func(v []int) bool { return v == nil }
	noError := func(v error) bool { return v == nil }
	nothing(t, "P11.6: a nil table", nil, 5, "a", noText)
	nothing(t, "P11.6: a nil table", nil, "k", []int{1}, noList)
	nothing[[2]float64](t, "P11.6: a nil table", nil, [2]float64{1, 2}, error(nil), noError)
	nothing(t, "P11.6: refused", table.New[int, string](nil), 5, "a", noText)
	var zero table.Table[int, string]
	nothing(t, "P0.1: a zero table", &zero, 0, "a", noText)
	nothing(t, "P0.1: a zero table", new(table.Table[string, []int]), "", []int{}, noList)
}
