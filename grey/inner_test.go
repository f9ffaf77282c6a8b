package grey

import (
	"math"
	"slices"
	"strconv"
	"testing"

	"gleaner/api"
)

// P15.6: where Next is the greatest int it stays; no test can bump so often.
func TestBumpGreatest(t *testing.T) {
	for _, bottom := range []bool{atTop, atBottom} {
		l := New()
		for i := range 5 {
			l.Push(api.Key{byte(i)})
		}
		l.Pop(atBottom)
		l.Push(api.Key{5})
		at := l.end(bottom)
		g, _ := l.at(at)
		g.Next = math.MaxInt - 1
		l.set(at, g)
		want := l.All()
		want[at].Next = math.MaxInt
		for range 3 {
			got, ok := l.Bump(bottom)
			if !ok || got != want[at] {
				t.Errorf("P15.6: Bump: %v, %v", got, ok)
			}
			if !slices.Equal(l.All(), want) {
				t.Errorf("P15.6: behind Bump: %v", l.All())
			}
		}
	}
}

// every is a row of the numbers 1 to n in each ring of so many slots that holds them, from each slot on.
func every(n int, tell func(what string, d *Deque[int])) {
	for slots := n; slots <= n+4; slots++ {
		for bottom := range max(1, slots) {
			d := &Deque[int]{row[int]{slots: make([]int, slots), bottom: bottom, count: n}}
			for i := range n {
				d.slots[(bottom+i)%slots] = i + 1
			}
			tell(strconv.Itoa(n)+" of "+strconv.Itoa(slots)+" from slot "+strconv.Itoa(bottom)+" on", d)
		}
	}
}

// kept tells whether the ring has its values where they are to be, and zero all around them.
func kept(t *testing.T, what string, d *Deque[int], want []int) {
	t.Helper()
	ring := make([]int, len(d.slots))
	for i, v := range want {
		ring[(d.bottom+i)%len(ring)] = v
	}
	if d.count != len(want) || d.bottom < 0 || d.bottom > 0 && d.bottom >= len(ring) || !slices.Equal(ring, d.slots) {
		t.Errorf("%s: %d from slot %d on in %v, not %v", what, d.count, d.bottom, d.slots, want)
	}
}

// Ways: what the row lets go is set to the zero value; the ring is made anew, greater, when it is full, and only then.
func TestRing(t *testing.T) {
	calls := []struct {
		name string
		grow bool
		do   func(d *Deque[int], list []int) []int
	}{
		{"PushTop", true, func(d *Deque[int], list []int) []int { d.PushTop(9); return append(list, 9) }},
		{"PushBottom", true, func(d *Deque[int], list []int) []int { d.PushBottom(9); return append([]int{9}, list...) }},
		{"PopTop", false, func(d *Deque[int], list []int) []int { d.PopTop(); return list[:max(0, len(list)-1)] }},
		{"PopBottom", false, func(d *Deque[int], list []int) []int { d.PopBottom(); return list[min(1, len(list)):] }},
		{"Turn up", false, func(d *Deque[int], list []int) []int {
			d.Turn(1)
			return append(slices.Clone(list[min(1, len(list)):]), list[:min(1, len(list))]...)
		}},
		{"Turn down", false, func(d *Deque[int], list []int) []int {
			d.Turn(-1)
			last := max(0, len(list)-1)
			return append(slices.Clone(list[last:]), list[:last]...)
		}},
	}
	for n := range 6 {
		for _, c := range calls {
			every(n, func(what string, d *Deque[int]) {
				before := d.slots
				list := []int{}
				for i := range n {
					list = append(list, i+1)
				}
				list = c.do(d, list)
				kept(t, what+": "+c.name, d, list)
				switch full := len(before) == n; {
				case c.grow && full && len(d.slots) <= len(before):
					t.Errorf("%s: %s: no greater ring", what, c.name)
				case !(c.grow && full) && (len(d.slots) != len(before) || len(before) > 0 && &d.slots[0] != &before[0]):
					t.Errorf("%s: %s: another ring", what, c.name)
				}
			})
		}
	}
}

// Ways: the ring grows seldom: the more it has, the less often.
func TestRingGrowsSeldom(t *testing.T) {
	d, rings := NewDeque[int](), 0
	for i := range 100000 {
		was := len(d.slots)
		if d.PushTop(i); len(d.slots) != was {
			rings++
		}
		if len(d.slots) > 4*d.count+8 {
			t.Fatalf("%d slots for %d", len(d.slots), d.count)
		}
	}
	if rings > 40 {
		t.Errorf("made anew %d times", rings)
	}
}

// P0.1: what All tells lies in no memory of the ring.
func TestValuesAreNew(t *testing.T) {
	every(4, func(what string, d *Deque[int]) {
		list := d.values()
		list = list[:cap(list)]
		for i := range list {
			list[i] = 50
		}
		kept(t, what+": written over", d, []int{1, 2, 3, 4})
	})
}
