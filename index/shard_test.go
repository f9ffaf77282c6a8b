package index_test

import (
	"testing"

	"gleaner/api"
	"gleaner/index"
)

// P12.6: the first byte modulo 16, and no other byte.
func TestShard(t *testing.T) {
	for first := range 256 {
		want := first
		for want >= 16 {
			want -= 16
		}
		is(t, "P12.6: Shard", index.Shard(api.Key{byte(first)}), want)
		k := named("top")
		k[0] = byte(first)
		is(t, "P12.6: Shard, whatever follows", index.Shard(k), want)
	}
	is(t, "P12.6: of the zero key", index.Shard(api.Key{}), 0)
	is(t, "P12.6: how many there are", api.Shards, 16)
}

// P12.6: of each of the sixteen how many entries have keys of it; they add up to Len.
func TestSizes(t *testing.T) {
	x := made(t)
	var want [16]int
	held := func(what string) {
		t.Helper()
		is(t, "P12.6: Sizes behind "+what, x.Sizes(), want)
		sum := 0
		for _, n := range want {
			sum += n
		}
		is(t, "P12.5: Len behind "+what, x.Len(), sum)
	}
	held("nothing")
	// Of shard s: 3s + 1 keys, in both halves of the first bytes, and unlike in another byte.
	of := func(s, i int) api.Key { return api.Key{byte(s + 16*((s+i*5)%16)), 31: byte(i)} }
	for s := range 16 {
		for i := range 3*s + 1 {
			x.Put(of(s, i), api.Entry{})
			want[s]++
			held("a Put")
			x.Put(of(s, i), api.Entry{Size: 1})
			held("a Put of what is there")
		}
	}
	is(t, "P12.5: all", x.Len(), 3*120+16)
	for s := range 16 {
		for i := range s {
			x.Mark(of(s, i), 5)
			x.Move(of(s, i), api.Place{}, api.Place{Seg: 1})
			held("a Mark and a Move")
			x.Del(of(s, i))
			want[s]--
			held("a Del")
			x.Del(of(s, i))
			held("a Del of what is gone")
		}
	}
	is(t, "P12.5: what is left", x.Len(), 2*120+16)
}

// P0.1: what Sizes tells is the caller's own.
func TestSizesApart(t *testing.T) {
	x := made(t)
	x.Put(named("05"), api.Entry{})
	n := x.Sizes()
	n[5], n[6] = 7, 8
	is(t, "P12.6: Sizes", books(x), "1 5:1")
}
