package index_test

import (
	"slices"
	"strconv"
	"strings"
	"testing"

	"gleaner/api"
	"gleaner/key"
)

// P12.4: of an empty index; with one entry.
func TestNextFew(t *testing.T) {
	both(t, "P12.4: an empty one", `
		Next 00             | -
		Next top            | -
		Next any 00         | -
		Next any top        | -`)
	both(t, "P12.4: one", `
		Put 55=1.2/3/4      | true
		Next 00             | 55=1.2/3/4
		Next 54ffffffffff   | 55=1.2/3/4
		Next 55             | -
		Next 55-01          | -
		Next 65             | -
		Next 45             | 55=1.2/3/4
		Next top            | -
		Next any 00         | 55=1.2/3/4
		Next any 55         | 55=1.2/3/4
		Next any 99         | 55=1.2/3/4
		Next any top        | 55=1.2/3/4
		Mark 55 7           | true
		Next 45             | 55=1.2/3/7
		Move 55 1.2 8.9     | true
		Next any 45         | 55=8.9/3/7
		Del 55              | 8.9/3/7
		Next 45             | -
		Next any 00         | -`)
	both(t, "P12.4: the least and the greatest key", `
		Put 00=0.0/0/0      | true
		Next 00             | -
		Next any 00         | 00=0.0/0/0
		Next any top        | 00=0.0/0/0
		Put top=1.1/1/1     | true
		Next 00             | top=1.1/1/1
		Next top            | -
		Next any top        | 00=0.0/0/0
		Del 00              | 0.0/0/0
		Next 00             | top=1.1/1/1
		Next any 00         | top=1.1/1/1
		Next any top        | top=1.1/1/1`)
}

// P12.4: of a key that is there, of one between two; of one shard and of unlike ones.
func TestNextMany(t *testing.T) {
	both(t, "P12.4: one shard", `
		Put 25=5.0/0/0 05=1.0/0/0 f5=9.0/0/0 15=3.0/0/0 15-01=4.0/0/0 05-ff=2.0/0/0 85=8.0/0/0 7500000001=7.0/0/0 75-01=6.0/0/0 | true true true true true true true true true
		Next 04             | 05=1.0/0/0
		Next 05             | 05-ff=2.0/0/0
		Next 05-fe          | 05-ff=2.0/0/0
		Next 05-ff          | 15=3.0/0/0
		Next 0501           | 15=3.0/0/0
		Next 14             | 15=3.0/0/0
		Next 15             | 15-01=4.0/0/0
		Next 15-01          | 25=5.0/0/0
		Next 1f             | 25=5.0/0/0
		Next 25             | 75-01=6.0/0/0
		Next 75             | 75-01=6.0/0/0
		Next 75-01          | 7500000001=7.0/0/0
		Next 7500000001     | 85=8.0/0/0
		Next 85             | f5=9.0/0/0
		Next f5             | -
		Next f6             | -
		Next any f5         | 05=1.0/0/0
		books               | 9 5:9`)
	both(t, "P12.4: unlike shards", `
		Put 1f=1.0/0/0 20=2.0/0/0 21=3.0/0/0 2f=4.0/0/0 30=5.0/0/0 7f=6.0/0/0 80=7.0/0/0 f0=8.0/0/0 ff=9.0/0/0 | true true true true true true true true true
		Next 00             | 1f=1.0/0/0
		Next 1e             | 1f=1.0/0/0
		Next 1f             | 20=2.0/0/0
		Next 20             | 21=3.0/0/0
		Next 21             | 2f=4.0/0/0
		Next 2f             | 30=5.0/0/0
		Next 30             | 7f=6.0/0/0
		Next 31             | 7f=6.0/0/0
		Next 7e             | 7f=6.0/0/0
		Next 7f             | 80=7.0/0/0
		Next 80             | f0=8.0/0/0
		Next f0             | ff=9.0/0/0
		Next ff             | -
		Next top            | -
		Next any ff         | 1f=1.0/0/0
		steps               | 1f=1.0/0/0 20=2.0/0/0 21=3.0/0/0 2f=4.0/0/0 30=5.0/0/0 7f=6.0/0/0 80=7.0/0/0 f0=8.0/0/0 ff=9.0/0/0
		books               | 9 0:4 1:1 15:4`)
}

// P12.4: two entries with each pair of first bytes, asked from each first byte on: bytes are held against one another as numbers from 0 to 255, whatever shards they are of.
func TestNextPairs(t *testing.T) {
	for a := 0; a < 256; a += 3 {
		for b := a; b < 256; b += 5 {
			x, p := made(t), plain{}
			for i, first := range []int{b, a} {
				k := api.Key{byte(first), 1: 7, 31: byte(2 - i)}
				x.Put(k, api.Entry{Size: i})
				p.Put(k, api.Entry{Size: i})
			}
			for _, first := range []int{0, a - 16, a - 1, a, a + 1, a + 15, a + 16, b - 16, b - 1, b, b + 1, b + 16, 255} {
				for _, rest := range []byte{0, 7, 255} {
					after := api.Key{byte(first), 1: rest, 31: 1}
					is(t, "P12.4: Next of "+digits(after), keyed(x.Next(after, false)), keyed(p.Next(after, false)))
				}
			}
			is(t, "P12.4: the least of all", keyed(x.Next(named("top"), true)), keyed(p.Next(named("top"), true)))
			if t.Failed() {
				t.Fatalf("with the first bytes %d and %d", a, b)
			}
		}
	}
}

// P12.4: a key's any byte may decide.
func TestNextBytes(t *testing.T) {
	for at := range 32 {
		low, mid, high := named("55"), named("55"), named("55")
		low[at], mid[at], high[at] = 0x7e, 0x7f, 0x80
		for i := at + 1; i < 32; i++ {
			low[i], high[i] = 0xff, 0x01
			mid[i] = 0x80
		}
		x := made(t)
		for _, k := range []api.Key{high, low} {
			x.Put(k, api.Entry{Size: at})
		}
		label := "P12.4: the byte " + strconv.Itoa(at)
		for _, c := range []struct {
			after, want api.Key
		}{{low, high}, {mid, high}, {api.Key{}, low}} {
			got, ok := x.Next(c.after, false)
			is(t, label, digits(got.Key), digits(c.want))
			is(t, label, ok, true)
		}
		_, ok := x.Next(high, false)
		is(t, label+": above the greatest", ok, false)
	}
}

// spread are n drawn keys.
func spread(n int) []api.Key {
	var keys []api.Key
	for i := range n {
		keys = append(keys, key.Of([]byte("spread "+strconv.Itoa(i))))
	}
	return keys
}

// P12.7: while nothing is done, Next's going on tells what All tells, whatever the number of entries is.
func TestStepsAll(t *testing.T) {
	x := made(t)
	one := made(t)
	for i, k := range spread(300) {
		is(t, "P12.7: with "+strconv.Itoa(i), stepped(x, k), listed(x.All()))
		is(t, "P12.7: of one shard, with "+strconv.Itoa(i), stepped(one, k), listed(one.All()))
		x.Put(k, api.Entry{Size: i})
		k[0] = k[0]&0xf0 | 9
		one.Put(k, api.Entry{Size: i})
		is(t, "P12.5: how many are told", strings.Count(listed(x.All()), "="), i+1)
		is(t, "P12.5: of one shard, how many are told", strings.Count(listed(one.All()), "="), i+1)
		if t.Failed() {
			return
		}
	}
}

// P12.7: entries that come and go ahead of and behind the key that was told last.
func TestStepsChanged(t *testing.T) {
	both(t, "P12.7", `
		Put 10=1.0/0/0 20=2.0/0/0 30=3.0/0/0 40=4.0/0/0 | true true true true
		Next any 00         | 10=1.0/0/0
		Next 10             | 20=2.0/0/0
		Put 05=5.0/0/0 19=6.0/0/0 25=7.0/0/0 | true true true
		Del 10              | 1.0/0/0
		Next 20             | 25=7.0/0/0
		Del 25 30           | 7.0/0/0 3.0/0/0
		Put 24=8.0/0/0 25=9.0/0/0 35=1.1/0/0 | true true true
		Next 25             | 35=1.1/0/0
		Put 25-01=1.2/0/0   | true
		Mark 40 7           | true
		Next 35             | 40=4.0/0/7
		Put 41=1.3/0/0      | true
		Next 40             | 41=1.3/0/0
		Del 41              | 1.3/0/0
		Next 41             | -`)
	both(t, "P12.7: the one that was told last goes, and comes again", `
		Put 10=1.0/0/0 20=2.0/0/0 | true true
		Next any 00         | 10=1.0/0/0
		Del 10              | 1.0/0/0
		Next 10             | 20=2.0/0/0
		Put 10=3.0/0/0      | true
		Del 20              | 2.0/0/0
		Put 20=4.0/0/0      | true
		Next 20             | -`)
}

// going is a walk by Next between whose steps the index is changed: each entry that is there all the while is told once, as it is then, and no key twice.
func going(t *testing.T, what string, x calls, change func(last api.Key)) []api.Key {
	t.Helper()
	stays := map[api.Key]int{}
	for k := range x.All() {
		stays[k] = 0
	}
	var told []api.Key
	last, first := api.Key{}, true
	for {
		at, ok := x.Next(last, first)
		if !ok {
			break
		}
		got, there := x.Get(at.Key)
		is(t, what+": what is told is there", answer(got, there), answer(at.Entry, true))
		if slices.Contains(told, at.Key) {
			t.Fatalf("P12.7: %s: %s is told twice", what, digits(at.Key))
		}
		told = append(told, at.Key)
		if _, ok := stays[at.Key]; ok {
			stays[at.Key]++
		}
		last, first = at.Key, false
		change(last)
		for k := range stays {
			if _, there := x.Get(k); !there {
				delete(stays, k)
			}
		}
	}
	for k, n := range stays {
		is(t, "P12.7: "+what+": how often "+digits(k)+" is told", n, 1)
	}
	if !slices.IsSortedFunc(told, key.Compare) {
		t.Errorf("P12.4: %s: what is told does not rise", what)
	}
	return told
}

// P12.7: drawn changes during a walk; tables begin to grow in the midst of it, and have grown at its end.
func TestStepsDrawn(t *testing.T) {
	met := map[string]int{}
	for seed := range 60 {
		x, some := made(t), dice(seed)
		keys := spread(900)
		if seed%3 == 0 {
			for i := range keys {
				keys[i][0] = keys[i][0]&0xf0 | 3 // one shard: its table grows at 7, 13, 25, 49, 97 ..
			}
		}
		for _, k := range keys[:100+some.throw(200)] {
			x.Put(k, some.entry())
		}
		began := x.Len()
		told := going(t, "seed "+strconv.Itoa(seed), x, func(last api.Key) {
			for range some.throw(8) {
				k := keys[some.throw(len(keys))]
				side := "ahead of"
				if key.Compare(k, last) < 0 {
					side = "behind"
				}
				switch some.throw(5) {
				case 0:
					if _, ok := x.Del(k); ok {
						met["out, "+side]++
					}
				case 1:
					x.Mark(k, some.epoch())
				default:
					if x.Put(k, some.entry()) {
						met["in, "+side]++
					}
				}
			}
		})
		if x.Len() > 2*began {
			met["twice as many"]++
		}
		if len(told) > began {
			met["more told than there were"]++
		}
		if t.Failed() {
			return
		}
	}
	for _, w := range []string{"out, ahead of", "out, behind", "in, ahead of", "in, behind", "twice as many", "more told than there were"} {
		if met[w] < 20 {
			t.Errorf("drawn: %s: %d times", w, met[w])
		}
	}
}

// P12.7: what is told is taken out at once, as a sweep does; all of it is gone then.
func TestStepsOut(t *testing.T) {
	x := made(t)
	for i, k := range spread(700) {
		x.Put(k, api.Entry{Size: i})
	}
	is(t, "P12.7: how many are told", len(going(t, "all goes", x, func(last api.Key) { x.Del(last) })), 700)
	is(t, "P12.5: Len", books(x), "0")
}
