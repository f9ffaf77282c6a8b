package sched_test

import (
	"bytes"
	"math"
	"slices"
	"testing"

	"gleaner/api"
	"gleaner/sched"
)

// The same run again is the same, in what is told and in what bodies share.
func TestTheSameAgain(t *testing.T) {
	x := dice(11)
	for range 50 {
		picks := x.picks(x.throw(60))
		most := x.throw(60)
		once := func() (string, string) {
			var k book
			gate := 0
			door := func(b *sched.Baton) {
				for i := range 5 {
					b.Wait(func() bool { return gate >= i })
					k.note("d", gate)
				}
			}
			opens := func(b *sched.Baton) {
				for range 5 {
					gate++
					k.note("o", b.Act())
					b.Step()
				}
			}
			line := told(sched.Run(bodies{door, opens, k.writes(7, 4), door, fails(3)}, picks, most))
			return line, k.String()
		}
		line, seen := once()
		for range 5 {
			again, seenAgain := once()
			is(t, "P8.6", again, line)
			is(t, "P8.6", seenAgain, seen)
		}
	}
}

// If no body waits, each has as many acts as hang on itself alone, and their sum is enough.
func TestActsOfBodiesThatDoNotWait(t *testing.T) {
	x := dice(12)
	for range 300 {
		counts := make([]int, 1+x.throw(8))
		var list bodies
		sum := 0
		for i := range counts {
			counts[i] = 1 + x.throw(9)
			sum += counts[i]
			list = append(list, steps(counts[i]))
		}
		picks := x.picks(x.throw(80))
		r, no := sched.Run(list, picks, sum)
		if no != api.OK || len(r.Acts) != sum || r.Used != min(len(picks), sum) {
			t.Fatalf("P8.6: %v, most %d: %s", counts, sum, told(r, no))
		}
		if !slices.Equal(r.Acts, modelOfSteps(counts, picks)) {
			t.Fatalf("P8.2: %v: %s", counts, told(r, no))
		}
		for i, n := range counts {
			got := 0
			for _, a := range r.Acts {
				if int(a) == i {
					got++
				}
			}
			if got != n {
				t.Fatalf("P8.6: thread %d has %d acts of %d: %s", i, got, n, told(r, no))
			}
		}
		if r, no = sched.Run(list, picks, sum-1); no != api.ErrOver || len(r.Acts) != sum-1 {
			t.Fatalf("P8.6: %v, most %d: %s", counts, sum-1, told(r, no))
		}
	}
}

func TestOneBody(t *testing.T) {
	x := dice(13)
	for _, n := range []int{0, 1, 2, 7, 8, 100, 1000} {
		for range 10 {
			picks := x.picks(n)
			r, no := sched.Run(bodies{steps(20)}, picks, math.MaxInt)
			if no != api.OK || !slices.Equal(r.Acts, make([]uint8, 20)) || r.Used != min(n, 20) {
				t.Fatalf("P8.6: %d picks: %s", n, told(r, no))
			}
		}
	}
}

// tried is a run with some threads that wait and how many were ready ahead of each act.
func tried(picks []byte, most int) (api.Report, api.Errno, string, []int) {
	var k book
	var counts []int
	tokens := 0
	takes := func(b *sched.Baton) {
		for range 3 {
			b.Wait(func() bool { return tokens > 0 })
			tokens--
			k.note("t", b.Thread())
		}
	}
	gives := func(b *sched.Baton) {
		for range 5 {
			tokens++
			k.note("g", b.Act())
			b.Step()
		}
	}
	begun, done := [5]bool{}, [5]bool{}
	list := bodies{takes, gives, k.writes(8, 3), takes, k.writes(9, 2)}
	// Who is ready is reckoned from outside: who waits for a token is not, while there is none.
	waits := []bool{true, false, false, true, false}
	count := func() {
		n := 0
		for i := range list {
			if !done[i] && (!begun[i] || !waits[i] || tokens > 0) {
				n++
			}
		}
		counts = append(counts, n)
	}
	for i, body := range list {
		list[i] = func(b *sched.Baton) {
			begun[i] = true
			body(b)
			done[i] = true
		}
	}
	count()
	r, no := sched.Watch(list, picks, most, count)
	return r, no, k.String(), counts
}

// Picks behind the Used first ones show nowhere.
func TestPicksBehindUsed(t *testing.T) {
	x := dice(14)
	for range 200 {
		picks := x.picks(60)
		most := x.throw(30)
		r, no, seen, _ := tried(picks, most)
		if r.Used != len(r.Acts) {
			t.Fatalf("P8.2: %d acts, %d picks used", len(r.Acts), r.Used)
		}
		for _, n := range []int{0, 1, 5, 100} {
			other := append(slices.Clone(picks[:r.Used]), x.picks(n)...)
			again, noAgain, seenAgain, _ := tried(other, most)
			is(t, "P8.7", told(again, noAgain), told(r, no))
			is(t, "P8.7", seenAgain, seen)
		}
	}
}

// A pick is as good as its rest modulo how many threads were ready.
func TestPicksAndTheirRests(t *testing.T) {
	x := dice(15)
	for range 200 {
		picks := x.picks(60)
		most := 10 + x.throw(30)
		r, no, seen, counts := tried(picks, most)
		rests, greater := slices.Clone(picks[:r.Used]), slices.Clone(picks[:r.Used])
		for i := range rests {
			rests[i] %= byte(counts[i])
			for int(greater[i])+counts[i] < 256 {
				greater[i] += byte(counts[i])
			}
		}
		for _, other := range [][]byte{rests, greater} {
			again, noAgain, seenAgain, _ := tried(other, most)
			is(t, "P8.7", told(again, noAgain), told(r, no))
			is(t, "P8.7", seenAgain, seen)
		}
	}
}

// What is handed in is not changed, spare room behind it included.
func TestNothingIsChanged(t *testing.T) {
	x := dice(16)
	for _, n := range []int{0, 1, 3, 20, api.MaxPicks} {
		room := x.picks(n + 10)
		was := slices.Clone(room)
		calls := 0
		spare := func(*sched.Baton) { calls++ }
		list := append(bodies{steps(3), stuck, fails(2)}, spare)[:3]
		for _, most := range []int{0, 2, 99} {
			sched.Run(list, room[:n], most)
			sched.Watch(list, room[:n], most, func() {})
		}
		if !bytes.Equal(room, was) {
			t.Errorf("P0.1: %d picks were changed, or what is behind them", n)
		}
		list[:4][3](nil)
		if calls != 1 {
			t.Errorf("P0.1: the spare body was called %d times", calls)
		}
		is(t, "P0.1", told(sched.Run(list, nil, 99)), "[012020] [dwp] 0 ErrStuck")
	}
}

// A report is the caller's own: what is done to it, no other one shows.
func TestReportsAreNew(t *testing.T) {
	list := bodies{steps(3), stuck, fails(2)}
	picks := []byte{2, 1, 0}
	for _, c := range []struct {
		most int
		want string
	}{
		{0, "[] [ccc] 0 ErrOver"},
		{2, "[21] [ccc] 2 ErrOver"},
		{99, "[210200] [dwp] 3 ErrStuck"},
	} {
		first, no := sched.Run(list, picks, c.most)
		second, _ := sched.Run(list, picks, c.most)
		is(t, "P0.1", told(first, no), c.want)
		spoil(first)
		is(t, "P0.1", told(second, no), c.want)
		is(t, "P0.1", told(sched.Run(list, picks, c.most)), c.want)
		is(t, "P0.1", told(second, no), c.want)
	}
	if !bytes.Equal(picks, []byte{2, 1, 0}) {
		t.Errorf("P0.1: a report shares memory with the picks: %v", picks)
	}
}

// spoil writes over all of a report, spare room included.
func spoil(r api.Report) {
	acts, ends := r.Acts[:cap(r.Acts)], r.Ends[:cap(r.Ends)]
	for i := range acts {
		acts[i] = 99
	}
	for i := range ends {
		ends[i] = 99
	}
}

// The picks are not kept: what becomes of them later shows in no report.
func TestPicksAreNotKept(t *testing.T) {
	picks := []byte{1, 1, 0, 0}
	list := bodies{steps(2), steps(2)}
	r, no := sched.Run(list, picks, 9)
	for i := range picks {
		picks[i] = 77
	}
	list[0], list[1] = nil, nil
	is(t, "P0.1", told(r, no), "[1100] [dd] 4 OK")
}

// A run within an act of another one is a run by itself.
func TestRunWithinARun(t *testing.T) {
	var k book
	var outer *sched.Baton
	inner := func(b *sched.Baton) {
		k.note("i", b.Thread(), outer.Thread(), ".", b.Act(), outer.Act())
		b.Step()
		k.note("j", b.Thread(), outer.Thread(), ".", b.Act(), outer.Act())
	}
	line := told(sched.Run(bodies{k.writes(0, 3), func(b *sched.Baton) {
		outer = b
		b.Step()
		is(t, "P8.6", told(sched.Run(bodies{inner, inner, stuck}, []byte{1}, 9)), "[12010] [ddw] 1 ErrStuck")
		b.Step()
		k.note("z", b.Act())
	}}, nil, 99))
	is(t, "P8.6", line, "[010101] [dd] 0 OK")
	is(t, "P8.6", k.String(), "0 0 i11.03 i01.23 j11.33 j01.43 0 z5")
}
