package table_test

import (
	"math/bits"
	"strconv"
	"strings"
	"testing"

	"gleaner/table"
)

// hashes are good and bad ones.
var hashes = []struct {
	name string
	of   func(k int) uint64
}{
	{"the number", itself},
	{"minus the number", func(k int) uint64 { return -uint64(k) }},
	{"a good one", func(k int) uint64 { return uint64(k) * 0x9E3779B97F4A7C15 }},
	{"a good one, turned", func(k int) uint64 { return bits.Reverse64(uint64(k) * 0x9E3779B97F4A7C15) }},
	{"nought", func(int) uint64 { return 0 }},
	{"the greatest", func(int) uint64 { return 1<<64 - 1 }},
	{"three numbers", func(k int) uint64 { return uint64(k % 3) }},
	{"near the greatest", func(k int) uint64 { return 1<<64 - 1 - uint64(k%11) }},
	{"in high bits alone", func(k int) uint64 { return uint64(k) << 58 }},
	{"eights", func(k int) uint64 { return uint64(k) * 8 }},
	{"in runs", func(k int) uint64 { return uint64(k / 5) }},
}

// levels are how many pairs the drawn tables have, more or less; the last ones are those of tables that fill.
var levels = []int{1, 4, 7, 12, 25, 3, 60, 100}

// change is a drawn one of a key that lies in the elder array, in the younger one, or in neither.
func (x *dice) change(p *plain[int, string], level int) (k int, put bool) {
	put = x.throw(10) < 3
	if p.Len() < level {
		put = x.throw(10) < 7
	}
	some := p.younger
	if p.elder != nil && x.throw(4) > 0 {
		some = p.elder[p.m+8:] // what the step leaves there
	}
	old := x.throw(6) > 0
	if put {
		old = x.throw(3) == 0
	}
	for range some {
		if s := some[x.throw(len(some))]; old && s.what == isFull {
			return s.k, put
		}
	}
	return x.throw(4000) - 1000, put
}

// whole is all that can be seen of a table: in its pairs' places, and of some keys besides.
func whole(x texts, others []int) string {
	out := []string{books(x)}
	for k, v := range x.All() {
		out = append(out, strconv.Itoa(k)+"="+v+" "+strconv.Itoa(x.Probes(k))+answer(x.Get(k)))
	}
	for _, k := range others {
		out = append(out, strconv.Itoa(k)+" "+strconv.Itoa(x.Probes(k))+answer(x.Get(k)))
	}
	return strings.Join(out, "; ")
}

// plainly holds a table against a plain map on which the same was done.
func plainly(t *testing.T, what string, x texts, m map[int]string, others []int) {
	t.Helper()
	is(t, what+": Len", x.Len(), len(m))
	for k, v := range m {
		is(t, what+": Get of "+strconv.Itoa(k), answer(x.Get(k)), answer(v, true))
	}
	for _, k := range others {
		v, ok := m[k]
		is(t, what+": Get of "+strconv.Itoa(k), answer(x.Get(k)), answer(v, ok))
	}
	told := map[int]int{}
	for k, v := range x.All() {
		told[k]++
		is(t, what+": All tells", "'"+v+"'", answer(m[k], true))
		is(t, what+": how often All goes through "+strconv.Itoa(k), told[k], 1)
	}
	is(t, what+": how many All goes through", len(told), len(m))
}

// P11.2 to P11.5, P11.7: drawn calls, each answer and what is to be seen behind it held against the plain table, a plain map, and the bounds.
func TestDrawn(t *testing.T) {
	seen := map[string]int{}
	for seed, hash := range hashes {
		for game, level := range levels {
			x := dice(100*seed + game)
			a, p, m := made(t, hash.of), newPlain[int, string](hash.of), map[int]string{}
			for n := range 500 {
				k, put := x.change(p, level)
				v := strconv.Itoa(n)
				was, there := m[k]
				line := "Del " + strconv.Itoa(k)
				delete(m, k)
				if put {
					line = "Put " + strconv.Itoa(k) + "=" + v
					m[k] = v
				}
				label := hash.name + ", level " + strconv.Itoa(level) + ", call " + v + ": " + line
				is(t, label, call(a, line), answer(was, there))
				is(t, label+" (plain)", call(p, line), answer(was, there))
				seen[p.did]++
				others := []int{k, k + 1, k - a.Cap(), x.throw(4000) - 1000}
				is(t, label+": behind it", whole(a, others), whole(p, others))
				is(t, label+": P11.7", p.bounds(), "")
				plainly(t, label+": P11.7", a, m, others)
				if t.Failed() {
					return
				}
			}
		}
	}
	for _, w := range []string{"Put of a new one", "Put into a tomb", "Put in the younger", "Put in the elder", "Put, and it grows", "Put, and it is cleared of tombs", "Del in the younger", "Del in the elder", "Del of none"} {
		if seen[w] < 100 {
			t.Errorf("drawn: %s: %d times", w, seen[w])
		}
	}
}

// P11.7: many keys; behind each change the bounds hold, as far as they show.
func TestMany(t *testing.T) {
	x := dice(117)
	a, m := table.New[int, int](hashes[2].of), map[int]int{}
	for n := range 200000 {
		k, j := x.throw(20000), x.throw(20000)
		want, there := m[k]
		v, ok := 0, false
		if x.throw(10) < []int{9, 5, 2, 6, 8, 5, 1, 7}[n/25000] {
			v, ok = a.Put(k, n)
			m[k] = n
		} else {
			v, ok = a.Del(k)
			delete(m, k)
		}
		if v != want || ok != there {
			t.Fatalf("P11.3: change %d, of %d: %d, %v", n, k, v, ok)
		}
		want, there = m[j]
		if v, ok = a.Get(j); v != want || ok != there {
			t.Fatalf("P11.7: behind change %d: Get of %d: %d, %v", n, j, v, ok)
		}
		if a.Len() != len(m) || !bounded(a) {
			t.Fatalf("P11.7: behind change %d, with %d keys: %s", n, len(m), books[int, int](a))
		}
	}
	told := map[int]int{}
	for k, v := range a.All() {
		told[k]++
		if m[k] != v || told[k] > 1 {
			t.Fatalf("P11.7: All tells %d, %d", k, v)
		}
	}
	is(t, "P11.7: how many All goes through", len(told), len(m))
}

// bounded tells whether a table's books may be.
func bounded(a *table.Table[int, int]) bool {
	c := a.Cap()
	if c < 8 || bits.OnesCount(uint(c)) != 1 || a.Left()%8 != 0 || a.Left() > c {
		return false
	}
	if a.Left() > 0 {
		return 8*a.Tombs() <= 5*c
	}
	return 4*(a.Len()+a.Tombs()) <= 3*c
}
