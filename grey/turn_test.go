package grey_test

import (
	"math"
	"strconv"
	"testing"
)

// P15.3: Turn of few and of many, both ways.
func TestTurn(t *testing.T) {
	both(t, "P15.3: up", texts("a b c d"), `
		Turn 0              | [a b c d]
		Turn 1              | [b c d a]
		Turn 1 2            | [c d a b] [a b c d]
		Turn n              | [a b c d]
		Turn n+1            | [b c d a]
		Turn n-1            | [a b c d]
		Turn 7 9            | [d a b c] [a b c d]
		Len                 | 4`)
	both(t, "P15.3: down", texts("a b c d"), `
		Turn -1             | [d a b c]
		Turn -1 -2          | [c d a b] [a b c d]
		Turn -n             | [a b c d]
		Turn -5             | [d a b c]
		Turn -3             | [a b c d]
		Turn -7 -9          | [b c d a] [a b c d]
		Len                 | 4`)
	both(t, "P15.3: of two", texts("a b"), `
		Turn 1 1 -1 2 -2 3 -3 | [b a] [a b] [b a] [b a] [b a] [a b] [b a]`)
	both(t, "P15.3: of one", texts("a"), `
		Turn 0 1 -1 2 -2 greatest least | [a] [a] [a] [a] [a] [a] [a]`)
	both(t, "P15.3: of none", nil, `
		Turn 0 1 -1 2 -2 greatest least | [] [] [] [] [] [] []
		PushTop a           | 1
		PushBottom b        | 2
		All                 | [b a]`)
}

// P15.3: the greatest and the least int; 2^63 is 2 modulo 3 and modulo 6, 3 modulo 5, 1 modulo 7.
func TestTurnFar(t *testing.T) {
	if math.MaxInt != math.MaxInt64 {
		t.Skip("the remainders here are those of 64 bits")
	}
	both(t, "P15.3: of three", texts("a b c"), `
		Turn greatest       | [b c a]
		Turn least          | [c a b]`)
	both(t, "P15.3: of four", texts("a b c d"), `
		Turn greatest       | [d a b c]
		Turn least          | [d a b c]`)
	both(t, "P15.3: of five", texts("a b c d e"), `
		Turn least          | [c d e a b]
		Turn greatest       | [e a b c d]`)
	both(t, "P15.3: of six", texts("a b c d e f"), `
		Turn least          | [e f a b c d]
		Turn greatest       | [f a b c d e]`)
	both(t, "P15.3: of seven", texts("a b c d e f g"), `
		Turn least          | [g a b c d e f]
		Turn greatest       | [g a b c d e f]`)
}

// P15.3: so many times, by the row's own PopBottom and PushTop, or PopTop and PushBottom; in rows that lie in all ways in their memory.
func TestTurnAsTimes(t *testing.T) {
	for n := range 8 {
		for times := -2*n - 2; times <= 2*n+2; times++ {
			rows, others := shaped(n), shaped(n)
			for k, d := range rows {
				slow := others[k]
				for range times {
					if v, ok := slow.PopBottom(); ok {
						slow.PushTop(v)
					}
				}
				for range -times {
					if v, ok := slow.PopTop(); ok {
						slow.PushBottom(v)
					}
				}
				var want []int
				for _, v := range slow.All() {
					want = append(want, v)
				}
				d.Turn(times)
				holds(t, "P15.3: "+strconv.Itoa(n)+" values, row "+strconv.Itoa(k)+": Turn "+strconv.Itoa(times), d, want)
			}
			if t.Failed() {
				return
			}
		}
	}
}

// far are turns of many times.
var far = []int{math.MaxInt, math.MaxInt - 1, math.MaxInt - 2, math.MinInt, math.MinInt + 1, math.MinInt + 2, math.MaxInt32, math.MinInt32, 1 << 40, -1 << 40, 1000003, -1000003}

// P15.3: many times, in rows that lie in all ways in their memory; what is pushed behind it comes to its end.
func TestTurnFarShaped(t *testing.T) {
	for n := range 8 {
		for _, times := range far {
			like := &plain[int]{counted(n)}
			like.Turn(times)
			then := like.list
			like.PushTop(50)
			like.PushBottom(60)
			for k, d := range shaped(n) {
				label := "P15.3: " + strconv.Itoa(n) + " values, row " + strconv.Itoa(k) + ": Turn " + strconv.Itoa(times)
				d.Turn(times)
				holds(t, label, d, then)
				d.PushTop(50)
				d.PushBottom(60)
				holds(t, label+", pushed onto", d, like.list)
			}
		}
	}
}

// P15.3: it ends soon, in long rows too.
func TestTurnLong(t *testing.T) {
	const long = 100003
	d := made(t, counted(long)...)
	d.PushTop(0)
	d.PopTop()
	for _, times := range far {
		d.Turn(times)
		first, _ := d.At(0)
		at := ((first-1-times%long)%long + long) % long
		is(t, "P15.3: Turn "+strconv.Itoa(times)+": the bottom", at, 0)
		last, _ := d.At(long - 1)
		is(t, "P15.3: Turn "+strconv.Itoa(times)+": the top", last, (first+long-2)%long+1)
		d.Turn(-(times % long))
		if v, ok := d.At(0); !ok || v != 1 {
			t.Fatalf("P15.7: back again: %d at the bottom", v)
		}
	}
}
