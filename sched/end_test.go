package sched_test

import (
	"math"
	"testing"

	"gleaner/sched"
)

// waitFor is a body that does its first act, waits for ready, and is over.
func waitFor(ready func() bool) func(*sched.Baton) {
	return func(b *sched.Baton) { b.Wait(ready) }
}

func broken() bool { panic("ready's own") }

func TestEnds(t *testing.T) {
	for _, c := range []struct {
		what  string
		list  bodies
		picks []byte
		most  int
		want  string
	}{
		{"all done", bodies{steps(1), steps(2)}, nil, 9, "[011] [dd] 0 OK"},
		{"all done in most acts", bodies{steps(1), steps(2)}, nil, 3, "[011] [dd] 0 OK"},
		{"one act too few", bodies{steps(1), steps(2)}, nil, 2, "[01] [dc] 0 ErrOver"},
		{"a body that stands in its last Step is not over", bodies{func(b *sched.Baton) { b.Step() }}, nil, 1, "[0] [c] 0 ErrOver"},
		{"a panic", bodies{fails(1), steps(1)}, nil, 9, "[01] [pd] 0 ErrPanic"},
		{"all panic", bodies{fails(2), fails(1)}, nil, 9, "[010] [pp] 0 ErrPanic"},
		{"a panic in the last of most acts", bodies{steps(1), fails(2)}, nil, 3, "[011] [dp] 0 ErrPanic"},
		{"stuck", bodies{stuck}, nil, 9, "[0] [w] 0 ErrStuck"},
		{"all stuck", bodies{stuck, stuck, stuck}, nil, math.MaxInt, "[012] [www] 0 ErrStuck"},
		{"stuck beside one that is done", bodies{steps(2), stuck}, nil, 9, "[010] [dw] 0 ErrStuck"},
		{"stuck ahead of a panic", bodies{fails(1), stuck, steps(1)}, nil, 9, "[012] [pwd] 0 ErrStuck"},
		{"over ahead of a panic", bodies{fails(1), steps(9)}, nil, 3, "[011] [pc] 0 ErrOver"},
		{"over, though none is ready", bodies{stuck, steps(1)}, nil, 2, "[01] [cd] 0 ErrOver"},
		{"over, though none is ready, all of them", bodies{stuck, stuck}, nil, 2, "[01] [cc] 0 ErrOver"},
		{"over, one waits, one is to come", bodies{stuck, steps(1)}, nil, 1, "[0] [cc] 0 ErrOver"},
		{"over ahead of stuck and panic", bodies{stuck, fails(1), steps(5)}, nil, 4, "[0122] [cpc] 0 ErrOver"},
		{"one act more than till it is stuck", bodies{stuck, steps(1)}, nil, 3, "[01] [wd] 0 ErrStuck"},
		{"no act may be done", bodies{steps(1), stuck, fails(1)}, []byte{1, 2}, 0, "[] [ccc] 0 ErrOver"},
		{"a ready that panics", bodies{waitFor(broken), steps(1)}, nil, 9, "[01] [pd] 0 ErrPanic"},
		{"a ready that panics, of the only one", bodies{waitFor(broken)}, nil, 9, "[0] [p] 0 ErrPanic"},
		{"a ready that panics where none is ready", bodies{stuck, waitFor(broken)}, nil, 9, "[01] [wp] 0 ErrStuck"},
		{"a ready that panics, and one that is cut", bodies{waitFor(broken), steps(9)}, nil, 3, "[011] [pc] 0 ErrOver"},
		{"a ready that is not asked any more", bodies{steps(1), waitFor(broken)}, nil, 2, "[01] [dc] 0 ErrOver"},
		{"a ready that is asked for the first time at the end", bodies{steps(1), waitFor(broken)}, nil, 3, "[01] [dp] 0 ErrPanic"},
		{"picks are used as far as acts go", bodies{stuck, fails(2), steps(1)}, []byte{2, 0, 9, 7, 7, 7}, 9, "[2011] [wpd] 4 ErrStuck"},
	} {
		is(t, "P8.3: "+c.what, told(sched.Run(c.list, c.picks, c.most)), c.want)
		is(t, "P8.3, P8.2a: "+c.what, told(sched.Watch(c.list, c.picks, c.most, func() {})), c.want)
	}
}

// How a thread ended is told of it as it stood when the run ended, whatever its body does when it is unwound.
func TestEndsAreNotChangedByUnwinding(t *testing.T) {
	for _, c := range []struct {
		most int
		want string
	}{{4, "[0123] [cccc] 0 ErrOver"}, {5, "[0123] [wwww] 0 ErrStuck"}} {
		x := 0
		is(t, "P8.3", told(sched.Run(bodies{
			func(b *sched.Baton) {
				caught(func() { b.Wait(never) })
				x = 1
			},
			func(b *sched.Baton) { b.Wait(func() bool { return x == 1 }) },
			func(b *sched.Baton) {
				defer func() { panic("its own") }()
				b.Wait(never)
			},
			func(b *sched.Baton) {
				defer func() { recover() }()
				b.Wait(never)
			},
		}, nil, c.most)), c.want)
	}
	// Of a thread whose ready panicked, too: it is over, and stays what it is.
	is(t, "P8.3, P8.5", told(sched.Run(bodies{func(b *sched.Baton) {
		caught(func() { b.Wait(broken) })
	}}, nil, 9)), "[0] [p] 0 ErrPanic")
}
