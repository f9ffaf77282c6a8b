package grey_test

import (
	"math"
	"strconv"
	"testing"

	"gleaner/grey"
)

// flow puts the numbers 1 to n in at one end, so many at a time, and takes some out at an end behind each time; what comes out, in its order.
func flow(d *grey.Deque[int], n, in, out int, push func(int), pop func() (int, bool)) []int {
	var told []int
	take := func(times int) {
		for range times {
			if v, ok := pop(); ok {
				told = append(told, v)
			}
		}
	}
	for i := range n {
		push(i + 1)
		if i%in == in-1 {
			take(out)
		}
	}
	take(d.Len())
	return told
}

// P15.7: from one end to the other: in the order in which it went in, however many wait.
func TestThrough(t *testing.T) {
	for _, x := range [][2]int{{1, 1}, {2, 1}, {3, 2}, {5, 5}, {7, 6}, {50, 50}, {100, 3}, {1000, 1}} {
		what := "P15.7: " + strconv.Itoa(x[0]) + " in, " + strconv.Itoa(x[1]) + " out"
		d := made[int](t)
		holds(t, what+", up", made(t, flow(d, 1000, x[0], x[1], d.PushBottom, d.PopTop)...), counted(1000))
		holds(t, what+", down", made(t, flow(d, 1000, x[0], x[1], d.PushTop, d.PopBottom)...), counted(1000))
		holds(t, what+": behind all", d, nil)
		l := madeList(t)
		for i := range 250 {
			l.Push(keyed(byte(i + 1)))
			if i%x[0] == 0 {
				l.Push(keyed(byte(i + 2)))
				l.Pop(false)
			}
		}
		for i := range 250 {
			g, ok := l.Pop(true)
			is(t, what+": the list", toldGrey(g, ok), greyed(g))
			is(t, what+": the list", g.Key, keyed(byte(i+1)))
		}
	}
}

// P15.7: back at the same end: in the other order.
func TestBack(t *testing.T) {
	var want []int
	for i := range 500 {
		want = append(want, 500-i)
	}
	for k, d := range shaped(5) {
		what := "P15.7: row " + strconv.Itoa(k)
		top, bottom := made[int](t), made[int](t)
		for i := range 500 {
			d.PushTop(i + 1)
		}
		for range 500 {
			v, _ := d.PopTop()
			top.PushTop(v)
		}
		for i := range 500 {
			d.PushBottom(i + 1)
		}
		for range 500 {
			v, _ := d.PopBottom()
			bottom.PushTop(v)
		}
		holds(t, what+": the top", top, want)
		holds(t, what+": the bottom", bottom, want)
		holds(t, what+": behind it", d, counted(5))
	}
	l := madeList(t)
	for i := range 200 {
		l.Push(keyed(byte(i + 1)))
	}
	for i := range 200 {
		g, ok := l.Pop(false)
		is(t, "P15.7: the list", toldGrey(g, ok), greyed(g))
		is(t, "P15.7: the list", g.Key, keyed(byte(200-i)))
	}
}

// P15.7: no value is lost or told twice, whatever is done at both ends.
func TestNoneLost(t *testing.T) {
	for game := range 12 {
		some := dice(1500 + game)
		d, next, out := made[int](t), 0, map[int]int{}
		for range 3000 {
			put := func(push func(int)) {
				push(next)
				next++
			}
			take := func(pop func() (int, bool)) {
				if v, ok := pop(); ok {
					out[v]++
				}
			}
			switch n := some.throw(20 + game%3); {
			case n < 5:
				put(d.PushTop)
			case n < 10:
				put(d.PushBottom)
			case n < 14:
				take(d.PopTop)
			case n < 18:
				take(d.PopBottom)
			default:
				d.Turn(some.throw(100) - 50)
			}
			if d.Len()+len(out) != next {
				t.Fatalf("P15.7: %d put in, %d came out, %d are left", next, len(out), d.Len())
			}
		}
		for _, v := range d.All() {
			out[v]++
		}
		for v := range next {
			if out[v] != 1 {
				t.Fatalf("P15.7: game %d: the number %d: %d times", game, v, out[v])
			}
		}
	}
}

// P15.7: behind Turn(n) and Turn(-n) the row is as it was.
func TestTurnBack(t *testing.T) {
	for n := range 8 {
		for k, d := range shaped(n) {
			for _, times := range append([]int{0, 1, 2, 3, 5, 8, 13, n - 1, n, n + 1, 2 * n}, far...) {
				if times == math.MinInt {
					continue
				}
				what := "P15.7: " + strconv.Itoa(n) + " values, row " + strconv.Itoa(k) + ": Turn " + strconv.Itoa(times)
				d.Turn(times)
				d.Turn(-times)
				holds(t, what+" and back", d, counted(n))
				d.Turn(-times)
				d.Turn(times)
				holds(t, what+" the other way first", d, counted(n))
			}
		}
	}
}
