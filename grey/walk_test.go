package grey_test

import (
	"iter"
	"slices"
	"strconv"
	"testing"
)

// gone are the values that a walk tells, whose places are to be 0, 1 ..
func gone(t *testing.T, what string, walk iter.Seq2[int, int]) []int {
	t.Helper()
	out := []int{}
	for i, v := range walk {
		is(t, what+": place", i, len(out))
		out = append(out, v)
	}
	return out
}

// walks holds what a walk tells against what it is to tell.
func walks(t *testing.T, what string, walk iter.Seq2[int, int], want []int) {
	t.Helper()
	if got := gone(t, what, walk); !slices.Equal(got, want) {
		t.Errorf("%s: %v, not %v", what, got, want)
	}
}

// P15.4: gone over twice, left early wherever it may be, nested; of rows that lie in all ways in their memory.
func TestAll(t *testing.T) {
	for n := range 7 {
		for k, d := range shaped(n) {
			label := "P15.4: " + strconv.Itoa(n) + " values, row " + strconv.Itoa(k)
			all := d.All()
			walks(t, label, all, counted(n))
			walks(t, label+": twice", all, counted(n))
			for stop := range n {
				var told []int
				for i, v := range all {
					told = append(told, v)
					if i == stop {
						break
					}
				}
				is(t, label+": left at "+strconv.Itoa(stop), slices.Equal(told, counted(stop+1)), true)
			}
			walks(t, label+": behind those that were left", all, counted(n))
			holds(t, label+": the row", d, counted(n))
		}
	}
}

// P15.4: one walk within another, and within itself.
func TestNested(t *testing.T) {
	d := made(t, 1, 2, 3)
	all, other := d.All(), d.All()
	for _, within := range []iter.Seq2[int, int]{all, other, d.All()} {
		var out []int
		for i, v := range all {
			for j, w := range within {
				if i+j == 4 {
					break
				}
				out = append(out, 10*v+w)
			}
		}
		is(t, "P15.4: nested", slices.Equal(out, []int{11, 12, 13, 21, 22, 23, 31, 32}), true)
	}
}

// P15.4: of an empty row, which is filled then, and of one that is emptied.
func TestAllOfNone(t *testing.T) {
	d := made[int](t)
	all := d.All()
	walks(t, "P15.4: of none", all, nil)
	d.PushTop(1)
	walks(t, "P15.4: of none, filled then", all, nil)
	all = d.All()
	d.PopTop()
	walks(t, "P15.4: of one that is gone", all, []int{1})
	walks(t, "P15.4: of none again", d.All(), nil)
}

// changes are ways to change a row.
var changes = []struct {
	name string
	do   func(x calls[int])
}{
	{"PushTop", func(x calls[int]) { x.PushTop(50) }},
	{"PushBottom", func(x calls[int]) { x.PushBottom(60) }},
	{"PopTop", func(x calls[int]) { x.PopTop() }},
	{"PopBottom", func(x calls[int]) { x.PopBottom() }},
	{"Set of the bottom", func(x calls[int]) { x.Set(0, 70) }},
	{"Set of the top", func(x calls[int]) { x.Set(x.Len()-1, 80) }},
	{"Set of the middle", func(x calls[int]) { x.Set(x.Len()/2, 90) }},
	{"Turn up", func(x calls[int]) { x.Turn(1) }},
	{"Turn down", func(x calls[int]) { x.Turn(-2) }},
	{"many pushed", func(x calls[int]) {
		for i := range 20 {
			x.PushTop(i)
			x.PushBottom(i)
		}
	}},
	{"emptied", func(x calls[int]) {
		for range x.Len() {
			x.PopTop()
		}
	}},
	{"all taken off and others pushed", func(x calls[int]) {
		for range x.Len() {
			x.PopBottom()
			x.PushTop(-1)
		}
	}},
}

// P15.4: the row is changed between the call of All and the going over, and in the midst of it.
func TestAllOfChanged(t *testing.T) {
	for n := range 6 {
		for _, c := range changes {
			like := &plain[int]{counted(n)}
			c.do(like)
			for k, d := range shaped(n) {
				label := "P15.4: " + strconv.Itoa(n) + " values, row " + strconv.Itoa(k) + ": " + c.name
				all := d.All()
				c.do(d)
				walks(t, label, all, counted(n))
				holds(t, label+": the row", d, like.list)
			}
			for at := range n {
				for k, d := range shaped(n) {
					label := "P15.4: " + strconv.Itoa(n) + " values, row " + strconv.Itoa(k) + ": " + c.name + " at " + strconv.Itoa(at)
					all, told := d.All(), []int{}
					for i, v := range all {
						told = append(told, v)
						if i == at {
							c.do(d)
						}
					}
					is(t, label, slices.Equal(told, counted(n)), true)
					walks(t, label+": again", all, counted(n))
					holds(t, label+": the row", d, like.list)
				}
			}
			if t.Failed() {
				return
			}
		}
	}
}

// P15.4: each walk tells the row as it was at its own call of All.
func TestAllOfTimes(t *testing.T) {
	d := made(t, 1)
	var all []iter.Seq2[int, int]
	var want [][]int
	for i := range 40 {
		all, want = append(all, d.All()), append(want, gone(t, "P15.4", d.All()))
		changes[(i*7+2)%9].do(d)
		d.PushTop(i)
	}
	for i := range all {
		walks(t, "P15.4: All number "+strconv.Itoa(i), all[i], want[i])
	}
}
