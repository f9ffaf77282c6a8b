package sched_test

import (
	"math"
	"slices"
	"testing"

	"gleaner/api"
	"gleaner/sched"
)

func TestExamples(t *testing.T) {
	for _, c := range []struct {
		picks      []byte
		most       int
		want, line string
	}{
		{nil, 9, "0 1 0 1", "[0101] [dd] 0 OK"},
		{[]byte{1, 1, 0, 0}, 9, "1 1 0 0", "[1100] [dd] 4 OK"},
		{[]byte{3, 3, 3}, 9, "1 1 0 0", "[1100] [dd] 3 OK"},
		{nil, 3, "0 1 0", "[010] [dc] 0 ErrOver"},
		{nil, 0, "", "[] [cc] 0 ErrOver"},
	} {
		var k book
		is(t, "P8.2", told(sched.Run(bodies{k.writes(0, 2), k.writes(1, 2)}, c.picks, c.most)), c.line)
		is(t, "P8.2", k.String(), c.want)
	}
	var k book
	is(t, "P8.3", told(sched.Run(bodies{stuck, k.writes(1, 1)}, nil, 9)), "[01] [wd] 0 ErrStuck")
	is(t, "P8.3", k.String(), "1")
	k = nil
	is(t, "P8.3", told(sched.Run(bodies{fails(1), k.writes(1, 2)}, nil, 9)), "[011] [pd] 0 ErrPanic")
	is(t, "P8.3", k.String(), "1 1")
}

// refused tries what is no run: nothing is told, and nobody is called.
func refused(t *testing.T, list bodies, picks, most int, want api.Errno) {
	t.Helper()
	calls := 0
	for i, body := range list {
		if body != nil {
			list[i] = func(b *sched.Baton) { calls++ }
		}
	}
	behind := func() { calls++ }
	for _, ask := range []func() (api.Report, api.Errno){
		func() (api.Report, api.Errno) { return sched.Run(list, make([]byte, picks), most) },
		func() (api.Report, api.Errno) { return sched.Watch(list, make([]byte, picks), most, nil) },
		func() (api.Report, api.Errno) { return sched.Watch(list, make([]byte, picks), most, behind) },
	} {
		r, no := ask()
		if no != want || len(r.Acts) != 0 || len(r.Ends) != 0 || r.Used != 0 || calls != 0 {
			t.Errorf("P8.2, P8.3: %d bodies, %d picks, most %d: %+v, %d, %d calls, want nothing and %d", len(list), picks, most, r, no, calls, want)
		}
	}
}

func TestWrongArguments(t *testing.T) {
	some := func(n int) bodies { return slices.Repeat(bodies{steps(1)}, n) }
	without := func(n, hole int) bodies {
		list := some(n)
		list[hole] = nil
		return list
	}
	for _, picks := range []int{0, 1, api.MaxPicks, api.MaxPicks + 1, 1 << 20} {
		for _, most := range []int{math.MinInt, -1, 0, 1, 99, math.MaxInt} {
			for _, n := range []int{0, 9, 10, 16, 256, 257, 300} {
				refused(t, some(n), picks, most, api.ErrArg)
			}
			refused(t, nil, picks, most, api.ErrArg)
			for n := 1; n <= 9; n++ {
				for hole := range n {
					refused(t, without(n, hole), picks, most, api.ErrArg)
				}
			}
		}
	}
	for _, picks := range []int{0, api.MaxPicks, api.MaxPicks + 1} {
		for _, most := range []int{math.MinInt, math.MinInt32, -2, -1} {
			refused(t, some(1), picks, most, api.ErrArg)
			refused(t, some(8), picks, most, api.ErrArg)
		}
	}
	for _, picks := range []int{api.MaxPicks + 1, api.MaxPicks + 2, 2 * api.MaxPicks, 1 << 24} {
		for _, most := range []int{0, 1, math.MaxInt} {
			for n := 1; n <= 8; n++ {
				refused(t, some(n), picks, most, api.ErrLong)
			}
		}
	}
}

func TestRightArguments(t *testing.T) {
	for n := 1; n <= api.MaxThreads; n++ {
		for _, picks := range []int{0, 1, n, api.MaxPicks - 1, api.MaxPicks} {
			for _, most := range []int{n, n + 1, 1 << 40, math.MaxInt} {
				r, no := sched.Run(slices.Repeat(bodies{steps(1)}, n), make([]byte, picks), most)
				if no != api.OK || digits(r.Acts) != "01234567"[:n] || letters(r.Ends) != "dddddddd"[:n] || r.Used != min(n, picks) {
					t.Errorf("P8.2: %d bodies, %d picks, most %d: %s", n, picks, most, told(r, no))
				}
			}
		}
	}
}

// Each pick among each number of ready threads; those with lesser numbers wait, or are over.
func TestModulo(t *testing.T) {
	for threads := 1; threads <= api.MaxThreads; threads++ {
		for idle := range threads {
			list := slices.Repeat(bodies{steps(2)}, threads)
			for i := range idle {
				list[i] = bodies{stuck, steps(1)}[i%2]
			}
			for p := range 256 {
				picks := append(make([]byte, idle), byte(p))
				r, _ := sched.Run(list, picks, idle+1)
				if want := idle + p%(threads-idle); len(r.Acts) != idle+1 || int(r.Acts[idle]) != want || r.Used != idle+1 {
					t.Fatalf("P8.2: pick %d with threads %d to %d ready: %v, used %d, want %d", p, idle, threads-1, r.Acts, r.Used, want)
				}
			}
		}
	}
}

// The ready ones need not be next to one another: here they are 1, 4 and 6.
func TestModuloWithGaps(t *testing.T) {
	list := bodies{stuck, steps(2), stuck, stuck, steps(2), steps(1), steps(2), stuck}
	for p := range 256 {
		r, _ := sched.Run(list, []byte{0, 1, 1, 2, 3, byte(p)}, 6)
		if got, want := digits(r.Acts), "02357"+"146"[p%3:p%3+1]; got != want {
			t.Fatalf("P8.2: pick %d of three: %s, want %s", p, got, want)
		}
	}
}

// With the picks used up it goes round among the ready ones, from the one that acted last on.
func TestRound(t *testing.T) {
	for _, c := range []struct {
		what  string
		list  bodies
		picks []byte
		want  string
	}{
		{"none has acted yet: the least", bodies{steps(1), steps(1), steps(1)}, nil, "[012] [ddd] 0 OK"},
		{"each in turn", bodies{steps(3), steps(3), steps(3)}, nil, "[012012012] [ddd] 0 OK"},
		{"those that are over are left out", bodies{steps(1), steps(3), steps(2)}, nil, "[012121] [ddd] 0 OK"},
		{"those that wait are left out", bodies{steps(3), stuck, steps(3)}, nil, "[0120202] [dwd] 0 ErrStuck"},
		{"behind a pick: the next above it", bodies{steps(2), steps(2), steps(2)}, []byte{1}, "[120120] [ddd] 1 OK"},
		{"behind picks, the last one among them", bodies{steps(2), steps(2), steps(2)}, []byte{2, 0}, "[201201] [ddd] 2 OK"},
		{"none above it: the least of all", bodies{steps(2), steps(2), steps(2)}, []byte{2}, "[201201] [ddd] 1 OK"},
		{"the one that acted last is over", bodies{steps(3), steps(1), steps(3)}, []byte{1}, "[1202020] [ddd] 1 OK"},
		{"the one that acted last is the last of all, and over", bodies{stuck, steps(3), steps(1)}, []byte{0, 1}, "[02111] [wdd] 2 ErrStuck"},
		{"it is the only one", bodies{stuck, steps(4), stuck}, []byte{0, 1, 0}, "[021111] [wdw] 3 ErrStuck"},
		{"eight", slices.Repeat(bodies{steps(2)}, 8), []byte{5}, "[5670123456701234] [dddddddd] 1 OK"},
	} {
		is(t, "P8.2: "+c.what, told(sched.Run(c.list, c.picks, 99)), c.want)
	}
}

// A thread that becomes ready again is found where it stands by number, not where it stood in a row.
func TestRoundWithOneThatComesBack(t *testing.T) {
	x := 0
	line := told(sched.Run(bodies{
		steps(4),
		func(b *sched.Baton) { b.Wait(func() bool { return x == 1 }) },
		func(b *sched.Baton) {
			b.Step()
			x = 1
			b.Step()
		},
	}, nil, 99))
	is(t, "P8.2", line, "[012020120] [ddd] 0 OK")
}

func TestMost(t *testing.T) {
	for most := range 8 {
		var k book
		r, no := sched.Run(bodies{k.writes(0, 3), k.writes(1, 2)}, []byte{1}, most)
		want := []string{
			"[] [cc] 0 ErrOver",
			"[1] [cc] 1 ErrOver",
			"[10] [cc] 1 ErrOver",
			"[101] [cd] 1 ErrOver",
			"[1010] [cd] 1 ErrOver",
			"[10100] [dd] 1 OK",
			"[10100] [dd] 1 OK",
			"[10100] [dd] 1 OK",
		}[most]
		is(t, "P8.2", told(r, no), want)
		if len(k) != len(r.Acts) {
			t.Errorf("P8.2: most %d: %d acts were done, %d are told", most, len(k), len(r.Acts))
		}
	}
}

// As many picks as may be, all of them used, and more acts behind them.
func TestAllPicks(t *testing.T) {
	x := dice(2)
	picks := x.picks(api.MaxPicks)
	r, no := sched.Run(bodies{steps(40000), steps(40000), steps(10)}, picks, math.MaxInt)
	want := modelOfSteps([]int{40000, 40000, 10}, picks)
	if no != api.OK || !slices.Equal(r.Acts, want) || r.Used != api.MaxPicks {
		t.Errorf("P8.2: %d acts, used %d, %d; want %d acts, used %d", len(r.Acts), r.Used, no, len(want), api.MaxPicks)
	}
}

// modelOfSteps is which threads act, if none waits.
func modelOfSteps(left []int, picks []byte) []uint8 {
	left = slices.Clone(left)
	var acts []uint8
	last := -1
	for {
		var ready []int
		for i, n := range left {
			if n > 0 {
				ready = append(ready, i)
			}
		}
		if len(ready) == 0 {
			return acts
		}
		if len(acts) < len(picks) {
			last = ready[int(picks[len(acts)])%len(ready)]
		} else if i := slices.IndexFunc(ready, func(n int) bool { return n > last }); i >= 0 {
			last = ready[i]
		} else {
			last = ready[0]
		}
		left[last]--
		acts = append(acts, uint8(last))
	}
}
