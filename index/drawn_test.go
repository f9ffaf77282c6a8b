package index_test

import (
	"strconv"
	"testing"

	"gleaner/api"
	"gleaner/index"
	"gleaner/key"
)

// families are keys of several kinds, each by a number.
var families = []struct {
	name string
	of   func(n int) api.Key
}{
	{"digests", func(n int) api.Key { return key.Of([]byte(strconv.Itoa(n))) }},
	{"digests of one shard", func(n int) api.Key {
		k := key.Of([]byte(strconv.Itoa(n)))
		k[0] = k[0]&0xf0 | 0xc
		return k
	}},
	{"digests of one first byte", func(n int) api.Key {
		k := key.Of([]byte(strconv.Itoa(n)))
		k[0] = 0xff
		return k
	}},
	{"unlike in the last bytes", func(n int) api.Key { return api.Key{0x55, 30: byte(n >> 8), 31: byte(n)} }},
	{"unlike in the first bytes", func(n int) api.Key { return api.Key{byte(n), byte(n >> 8)} }},
	{"unlike in high bits", func(n int) api.Key { return api.Key{byte(n << 4), byte(n>>4) << 4, byte(n>>8) << 4} }},
}

// shown does a drawn call, and tells its answer.
func shown(x calls, what string, k api.Key, e api.Entry, old api.Place) string {
	switch what {
	case "Put":
		return strconv.FormatBool(x.Put(k, e))
	case "Del":
		return answer(x.Del(k))
	case "Mark":
		return strconv.FormatBool(x.Mark(k, e.Mark))
	case "Move":
		return strconv.FormatBool(x.Move(k, old, e.Place))
	}
	return answer(x.Get(k))
}

// P12.1 to P12.7: drawn calls, each answer and what is to be seen behind it held against a plain map.
func TestDrawn(t *testing.T) {
	met := map[string]int{}
	for seed, f := range families {
		for game, level := range []int{3, 20, 120, 500} {
			some := dice(100*seed + game)
			x, p := made(t), plain{}
			for n := range 700 {
				what := []string{"Put", "Del", "Mark", "Move", "Get"}[some.throw(5)]
				if p.Len() < level && some.throw(2) == 0 {
					what = "Put"
				}
				k, e, from := f.of(some.throw(level*2)), some.entry(), some.place()
				if was, ok := p[k]; ok && some.throw(2) == 0 {
					from = was.Place
				}
				label := f.name + ", level " + strconv.Itoa(level) + ", call " + strconv.Itoa(n) + ": " + what + " " + digits(k)
				want := shown(p, what, k, e, from)
				is(t, label, shown(x, what, k, e, from), want)
				if want != "false" && want != "-" {
					want = "true"
				}
				met[what+" "+want]++
				behind(t, label, x, p, k, f.of(some.throw(level*2)))
				if n%50 == 49 {
					is(t, label+": All", listed(x.All()), listed(p.All()))
					is(t, label+": going by Next", stepped(x, k), listed(p.All()))
				}
				if t.Failed() {
					return
				}
			}
		}
	}
	for _, w := range []string{"Put true", "Put false", "Del true", "Del -", "Mark true", "Mark false", "Move true", "Move false", "Get true", "Get -"} {
		if met[w] < 300 {
			t.Errorf("drawn: %s: %d times", w, met[w])
		}
	}
}

// behind holds what is to be seen behind a call against the plain map.
func behind(t *testing.T, label string, x *index.Index, p plain, keys ...api.Key) {
	t.Helper()
	is(t, label+": books", books(x), books(p))
	for _, k := range keys {
		is(t, label+": Get of "+digits(k), answer(x.Get(k)), answer(p.Get(k)))
		is(t, label+": Next of "+digits(k), keyed(x.Next(k, false)), keyed(p.Next(k, false)))
	}
	is(t, label+": the least", keyed(x.Next(keys[0], true)), keyed(p.Next(keys[0], true)))
}

// P12.1, P12.2: many entries, put in and taken out; all of them are found, whatever their tables do.
func TestMany(t *testing.T) {
	for _, f := range families[:4] {
		some := dice(12)
		x, p := made(t), plain{}
		for n := range 40000 {
			k, e := f.of(some.throw(9000)), some.entry()
			what := "Put"
			if some.throw(10) >= []int{9, 5, 1, 8}[n/10000] {
				what = "Del"
			}
			j := f.of(some.throw(9000))
			got, want := shown(x, what, k, e, e.Place), shown(p, what, k, e, e.Place)
			if got != want || x.Len() != len(p) || answer(x.Get(j)) != answer(p.Get(j)) {
				t.Fatalf("%s: call %d: %s of %s: %s, not %s; %d of %d; Get of %s: %s", f.name, n, what, digits(k), got, want, x.Len(), len(p), digits(j), answer(x.Get(j)))
			}
		}
		is(t, f.name+": All", listed(x.All()), listed(p.All()))
		is(t, f.name+": books", books(x), books(p))
	}
}
