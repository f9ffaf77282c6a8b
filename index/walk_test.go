package index_test

import (
	"strconv"
	"strings"
	"testing"

	"gleaner/api"
	"gleaner/index"
	"gleaner/key"
)

// P12.5: by key, rising, in the order of layer 3, whatever shards they are of.
func TestAllOrder(t *testing.T) {
	both(t, "P12.5", `
		All                 |
		Put ff=1.0/0/0 00=2.0/0/0 7f=3.0/0/0 80=4.0/0/0 10=5.0/0/0 | true true true true true
		Put 10-01=6.0/0/0 0f=7.0/0/0 top=8.0/0/0 00-01=9.0/0/0 1001=1.1/0/0 | true true true true true
		All                 | 00=2.0/0/0 00-01=9.0/0/0 0f=7.0/0/0 10=5.0/0/0 10-01=6.0/0/0 1001=1.1/0/0 7f=3.0/0/0 80=4.0/0/0 ff=1.0/0/0 top=8.0/0/0
		Mark 10 7           | true
		Move 00 2.0 0.2     | true
		Del 7f ff           | 3.0/0/0 1.0/0/0
		All                 | 00=0.2/0/0 00-01=9.0/0/0 0f=7.0/0/0 10=5.0/0/7 10-01=6.0/0/0 1001=1.1/0/0 80=4.0/0/0 top=8.0/0/0
		books               | 8 0:6 15:2`)
}

// filled is an index of n drawn keys, and what All tells of it now.
func filled(t *testing.T, n int) (*index.Index, string) {
	t.Helper()
	x := made(t)
	var out []string
	p := plain{}
	for i, k := range spread(n) {
		x.Put(k, api.Entry{Size: i, Mark: 1})
		p[k] = api.Entry{Size: i, Mark: 1}
	}
	for _, k := range p.rising() {
		out = append(out, digits(k)+"="+told(p[k]))
	}
	return x, strings.Join(out, " ")
}

// P12.5: a walk may be gone over more than once, at once too.
func TestAllAgain(t *testing.T) {
	x, want := filled(t, 40)
	walk := x.All()
	for range 3 {
		is(t, "P12.5: a walk", listed(walk), want)
	}
	is(t, "P12.5: another walk", listed(x.All()), want)
	pairs := 0
	for k := range walk {
		for j := range walk {
			pairs++
			if j == k {
				break
			}
		}
	}
	is(t, "P12.5: a walk in a walk", pairs, 40*41/2)
}

// P12.5: a walk may be left early; one that leaves is told nothing more, and goes over all of it the next time.
func TestAllLeft(t *testing.T) {
	x, want := filled(t, 40)
	walk := x.All()
	words := strings.Split(want, " ")
	for stop := range 41 {
		var got []string
		walk(func(k api.Key, e api.Entry) bool {
			got = append(got, digits(k)+"="+told(e))
			return len(got) < stop
		})
		is(t, "P12.5: left at "+strconv.Itoa(stop), strings.Join(got, " "), strings.Join(words[:max(stop, 1)], " "))
	}
	is(t, "P12.5: behind all that", listed(walk), want)
}

// changes are what may be done to an index of 40 drawn keys.
var changes = map[string]func(x *index.Index, n int){
	"Put": func(x *index.Index, n int) { x.Put(key.Of([]byte{byte(n)}), api.Entry{Size: -1}) },
	"Put of many": func(x *index.Index, n int) {
		for i := range 50 {
			x.Put(key.Of([]byte{byte(n), byte(i), 0}), api.Entry{Size: -1})
		}
	},
	"Del":        func(x *index.Index, n int) { x.Del(spread(40)[n]) },
	"Del of all": func(x *index.Index, n int) { drain(x) },
	"Mark":       func(x *index.Index, n int) { x.Mark(spread(40)[39-n], 7) },
	"Move":       func(x *index.Index, n int) { x.Move(spread(40)[39-n], api.Place{}, api.Place{Seg: 1, Off: n}) },
	"Del, and Put": func(x *index.Index, n int) {
		x.Del(spread(40)[n])
		x.Put(spread(40)[n], api.Entry{Size: -2})
	},
}

// drain takes all entries out.
func drain(x *index.Index) {
	for k := range x.All() {
		x.Del(k)
	}
}

// P12.5: All tells what there is when it is called, whatever is done between that and the walk.
func TestAllThen(t *testing.T) {
	for what, change := range changes {
		x, want := filled(t, 40)
		walk := x.All()
		for n := range 40 {
			change(x, n)
			is(t, "P12.5: behind "+what, listed(walk), want)
		}
		if listed(x.All()) == want {
			t.Errorf("P12.5: %s changed nothing", what)
		}
		drain(x)
		is(t, "P12.5: Len, when all is taken out", x.Len(), 0)
		is(t, "P12.5: All, when all is taken out", listed(x.All()), "")
		is(t, "P12.5: the walk of then", listed(walk), want)
	}
	x := made(t)
	walk := x.All()
	x.Put(key.Of(nil), api.Entry{})
	is(t, "P12.5: All of an empty index", listed(walk), "")
}

// P12.5: and whatever is done during the walk.
func TestAllMeanwhile(t *testing.T) {
	for what, change := range changes {
		x, want := filled(t, 40)
		walk := x.All()
		for range 2 {
			var got []string
			for k, e := range walk {
				got = append(got, digits(k)+"="+told(e))
				change(x, len(got)-1)
			}
			is(t, "P12.5: "+what+" during the walk", strings.Join(got, " "), want)
		}
	}
}

// P12.5: Len behind each call.
func TestLen(t *testing.T) {
	both(t, "P12.5: Len", `
		books               | 0
		Put 01=1.1/1/1      | true
		books               | 1 1:1
		Put 01=1.1/1/1      | false
		books               | 1 1:1
		Put 11=1.1/1/1      | true
		books               | 2 1:2
		Get 01 21           | 1.1/1/1 -
		books               | 2 1:2
		Mark 01 2           | true
		books               | 2 1:2
		Mark 21 2           | false
		books               | 2 1:2
		Move 01 1.1 2.2     | true
		books               | 2 1:2
		Move 21 1.1 2.2     | false
		books               | 2 1:2
		Next 01             | 11=1.1/1/1
		books               | 2 1:2
		All                 | 01=2.2/1/2 11=1.1/1/1
		books               | 2 1:2
		Del 21              | -
		books               | 2 1:2
		Del 01              | 2.2/1/2
		books               | 1 1:1
		Del 01              | -
		books               | 1 1:1
		Del 11              | 1.1/1/1
		books               | 0`)
}
