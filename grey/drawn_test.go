package grey_test

import (
	"math"
	"strconv"
	"testing"
)

// place is a drawn one: of the row, near its ends, or far off.
func (x *dice) place(n int) int {
	switch x.throw(8) {
	case 0:
		return []int{-1, n, n + 1, -n, math.MinInt, math.MaxInt}[x.throw(6)]
	case 1:
		return []int{0, n - 1, n / 2}[x.throw(3)]
	}
	return x.throw(n + 1)
}

// times is a drawn number of turns.
func (x *dice) times(n int) int {
	switch x.throw(6) {
	case 0:
		return far[x.throw(len(far))]
	case 1:
		return []int{0, n, -n, n + 1, n - 1, 1 - n}[x.throw(6)]
	}
	return x.throw(2*n+3) - n - 1
}

// answer is what a drawn call answered.
type answer struct {
	v  int
	ok bool
}

// drawn is a call, and what it is called; how full a row grows hangs on the level.
func (x *dice) drawn(n, next, level int) (string, func(d calls[int]) answer) {
	more := 3
	if n < level {
		more = 7
	}
	switch k := x.throw(16); {
	case k < more:
		if x.throw(2) == 0 {
			return "PushTop", func(d calls[int]) answer { d.PushTop(next); return answer{} }
		}
		return "PushBottom", func(d calls[int]) answer { d.PushBottom(next); return answer{} }
	case k < 10:
		if x.throw(2) == 0 {
			return "PopTop", func(d calls[int]) answer { v, ok := d.PopTop(); return answer{v, ok} }
		}
		return "PopBottom", func(d calls[int]) answer { v, ok := d.PopBottom(); return answer{v, ok} }
	case k < 12:
		i := x.place(n)
		return "At", func(d calls[int]) answer { v, ok := d.At(i); return answer{v, ok} }
	case k < 14:
		i := x.place(n)
		return "Set", func(d calls[int]) answer { return answer{0, d.Set(i, next)} }
	}
	i := x.times(n)
	return "Turn", func(d calls[int]) answer { d.Turn(i); return answer{0, n > 1} }
}

// P15.1 to P15.4, P15.7: drawn calls, each answer and all that is to be seen behind it held against a plain list.
func TestDrawn(t *testing.T) {
	met := map[string]int{}
	for game := range 40 {
		some := dice(150 + game)
		level := []int{1, 2, 5, 8, 20}[game%5]
		from := counted(some.throw(level + 2))
		d, like := made(t, from...), &plain[int]{from}
		for n := range 1200 {
			what, do := some.drawn(like.Len(), 1000+n, level)
			label := "game " + strconv.Itoa(game) + ", call " + strconv.Itoa(n) + ": " + what
			all, was := d.All(), like.list
			want := do(like)
			is(t, label, do(d), want)
			holds(t, label+": behind it", d, like.list)
			walks(t, label+": the walk of before", all, was)
			met[what+" "+strconv.FormatBool(want.ok)]++
			if t.Failed() {
				return
			}
		}
	}
	for _, w := range []string{"PushTop false", "PushBottom false", "PopTop true", "PopTop false", "PopBottom true", "PopBottom false", "At true", "At false", "Set true", "Set false", "Turn true", "Turn false"} {
		if met[w] < 300 {
			t.Errorf("drawn: %s: %d times", w, met[w])
		}
	}
}

// P15.5 to P15.7: drawn calls of work lists, each answer and all that is to be seen behind it held against a plain list.
func TestDrawnLists(t *testing.T) {
	met := map[string]int{}
	for game := range 40 {
		some := dice(515 + game)
		level := []int{1, 2, 5, 8, 20}[game%5]
		l, like := madeList(t), &plainList{}
		for n := range 1200 {
			line, end := "", []string{"top", "bottom"}[some.throw(2)]
			switch k := some.throw(10); {
			case k < 2, k < 5 && like.Len() < level:
				line = "Push " + string(rune('a'+some.throw(4)))
			case k < 7:
				line = "Pop " + end
			default:
				line = "Bump " + end
			}
			label := "game " + strconv.Itoa(game) + ", call " + strconv.Itoa(n) + ": " + line
			want := ask(like, line)
			is(t, label, ask(l, line), want)
			alike(t, label+": behind it", l, like)
			if line[0] == 'P' && line[1] == 'u' {
				line = "Push"
			} else if want[0] == '-' {
				line += " of none"
			}
			met[line]++
			if t.Failed() {
				return
			}
		}
	}
	for _, w := range []string{"Push", "Pop top", "Pop bottom", "Bump top", "Bump bottom", "Pop top of none", "Pop bottom of none", "Bump top of none", "Bump bottom of none"} {
		if met[w] < 300 {
			t.Errorf("drawn: %s: %d times", w, met[w])
		}
	}
}
