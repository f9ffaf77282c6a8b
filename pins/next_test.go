package pins_test

import (
	"slices"
	"strconv"
	"testing"

	"gleaner/api"
	"gleaner/key"
)

// P14.4: with all the least, whatever after is; else the least above it.
func TestNext(t *testing.T) {
	both(t, "P14.4: Next", `
		Open 1              | OK
		Pin 1/m 1/ab 1/z 1/ac | OK OK OK OK
		All 1/0 1/ab 1/b 1/z 1/~ | ab ab ab ab ab
		Next 1/0 1/a        | ab ab
		Next 1/ab 1/ac 1/m  | ac m z
		Next 1/b 1/n        | m z
		Next 1/z 1/zz 1/~   | - - -
		steps 1             | [ab ac m z]
		Pin 1/0             | OK
		All 1/~ 1/0         | 0 0
		Next 1/0            | ab
		Pin 1/~             | OK
		Next 1/z 1/zz 1/~   | ~ ~ -
		steps 1             | [0 ab ac m z ~]`)
}

// P14.4: of one that pins nothing, of one that is not open, of no session; a pinned zero key is told with true.
func TestNextOfNone(t *testing.T) {
	both(t, "P14.4: nothing", `
		Open 0 15 6         | OK OK OK
		Pin 0/a 15/b        | OK OK
		All 6/0 6/a         | - -
		Next 6/0 6/a        | - -
		All 1/0 14/~        | - -
		Next 1/0 14/0       | - -
		All -1/0 16/0 least/0 greatest/0 | - - - -
		Next -1/0 16/0 least/0 greatest/0 | - - - -
		Pin 6/0             | OK
		All 6/0 6/~         | 0 0
		Next 6/0            | -
		Close 6             | OK
		All 6/0             | -
		Next 6/0            | -`)
}

// P14.4: each session's own keys alone.
func TestNextAlone(t *testing.T) {
	both(t, "P14.4: each its own", `
		Open 0 1            | OK OK
		Pin 0/a 0/c 0/e 1/b 1/d | OK OK OK OK OK
		steps 0 1           | [a c e] [b d]
		Next 0/b 1/c        | c d
		Next 1/d 0/d        | - e`)
}

// P14.4: every pair of the words' keys: after one of them the least of the pinned ones above.
func TestNextOfPairs(t *testing.T) {
	for i, a := range words {
		for j, b := range words {
			p := made(t)
			p.Open(8)
			p.Pin(8, keyed(b))
			p.Pin(8, keyed(a))
			least, most := words[min(i, j)], words[max(i, j)]
			for n, after := range words {
				want := "-"
				switch {
				case n < min(i, j):
					want = least
				case n < max(i, j):
					want = most
				}
				is(t, "P14.4: of "+a+" and "+b+" behind "+after, one(p, "Next", "8/"+after), want)
				is(t, "P14.4: of "+a+" and "+b+" with all and "+after, one(p, "All", "8/"+after), least)
			}
		}
	}
}

// digests are the keys of the numbers from 0 on.
func digests(n int) []api.Key {
	var out []api.Key
	for i := range n {
		out = append(out, key.Of([]byte(strconv.Itoa(i))))
	}
	return out
}

// P14.6: going by Next while nothing is done meets each key once, rising, in whatever order they were pinned.
func TestGoing(t *testing.T) {
	for _, n := range []int{0, 1, 2, 17, 600} {
		drawn := digests(n)
		rising := slices.SortedFunc(slices.Values(drawn), ordered)
		falling := slices.Clone(rising)
		slices.Reverse(falling)
		for i, keys := range [][]api.Key{drawn, rising, falling} {
			p := made(t)
			p.Open(11)
			p.Open(12)
			for _, k := range keys {
				p.Pin(11, k)
				p.Pin(12, api.Key{1: k[0]})
				p.Pin(11, k)
			}
			what := strconv.Itoa(n) + " keys, order " + strconv.Itoa(i)
			is(t, "P14.6: "+what, slices.Equal(told(p, 11), rising), true)
			is(t, "P14.5: "+what, slices.Equal(p.Sessions()[0].Pins, rising), true)
		}
	}
}

// P14.6: while keys are pinned above the one told last, and below it: those above are met, those below are not, and none twice.
func TestGoingWhilePinning(t *testing.T) {
	both(t, "P14.6: pinned on the way", `
		Open 0 1            | OK OK
		Pin 0/b 0/m         | OK OK
		All 0/0             | b
		Pin 0/a 0/c 1/d     | OK OK OK
		Next 0/b            | c
		Pin 0/b 0/bb 0/0    | OK OK OK
		Next 0/c            | m
		Pin 0/m             | OK
		Next 0/m            | -
		Pin 0/z             | OK
		Next 0/m            | z
		Pin 0/~             | OK
		Next 0/z            | ~
		Next 0/~            | -
		steps 0             | [0 a b bb c m z ~]`)
}

// P14.6: drawn keys pinned on the way.
func TestGoingDrawn(t *testing.T) {
	for game := range 60 {
		some := dice(1400 + game)
		keys := digests(120)
		p := made(t)
		p.Open(5)
		start := some.throw(40)
		for _, k := range keys[:start] {
			p.Pin(5, k)
		}
		due := slices.Clone(keys[:start])
		var met []api.Key
		at := start
		for k, ok := p.Next(5, keys[0], true); ok; k, ok = p.Next(5, k, false) {
			if n := len(met); n > 0 && ordered(met[n-1], k) >= 0 {
				t.Fatal("P14.6: the way does not rise")
			}
			met = append(met, k)
			for range some.throw(4) {
				if at == len(keys) {
					break
				}
				p.Pin(5, keys[at])
				if ordered(keys[at], k) > 0 {
					due = append(due, keys[at])
				}
				at++
			}
		}
		slices.SortFunc(due, ordered)
		is(t, "P14.6: game "+strconv.Itoa(game), slices.Equal(met, due), true)
		is(t, "P14.6: all at the end, game "+strconv.Itoa(game), len(told(p, 5)), at)
	}
}

// P14.6: a Close ends the way; the same way goes on in what is pinned behind the next Open.
func TestGoingOverClose(t *testing.T) {
	both(t, "P14.6: closed on the way", `
		Open 3              | OK
		Pin 3/a 3/b 3/c     | OK OK OK
		All 3/0             | a
		Next 3/a            | b
		Close 3             | OK
		Next 3/b            | -
		Open 3              | OK
		Next 3/b            | -
		Pin 3/a 3/z         | OK OK
		Next 3/b            | z`)
}
