package sched_test

import (
	"runtime"
	"slices"
	"testing"

	"gleaner/api"
	"gleaner/sched"
)

// Deferred functions of bodies that are not over run by number, each thread's whole ahead of the next one's, behind the last act and ahead of the answer.
func TestUnwoundByNumber(t *testing.T) {
	var k book
	body := func(name string, slow bool, pause func(b *sched.Baton)) func(*sched.Baton) {
		return func(b *sched.Baton) {
			defer func() {
				if slow {
					slowly()
				}
				k.note(name, "2")
			}()
			defer k.note(name, "1")
			k.note(name)
			pause(b)
			k.note(name, "!")
		}
	}
	step := func(b *sched.Baton) { b.Step() }
	line := told(sched.Watch(bodies{
		body("a", true, step),
		body("b", false, stuck),
		body("c", true, func(b *sched.Baton) {}),
		body("d", true, step),
		body("e", false, step),
	}, []byte{4, 2, 1, 0, 1}, 5, func() { k.note("|") }))
	is(t, "P8.4", k.String(), "e | c c! c1 c2 | b | a | d | a1 a2 b1 b2 d1 d2 e1 e2")
	is(t, "P8.4", line, "[42103] [ccdcc] 5 ErrOver")
}

// So it is where none is ready, and with those whose ready panicked among them.
func TestUnwoundWhereNoneIsReady(t *testing.T) {
	var k book
	body := func(name string, ready func() bool) func(*sched.Baton) {
		return func(b *sched.Baton) {
			defer func() {
				slowly()
				k.note(name)
			}()
			b.Wait(ready)
			k.note("!")
		}
	}
	line := told(sched.Watch(bodies{
		body("a", never), body("b", broken), body("c", never), body("d", broken), k.writes(4, 3),
	}, []byte{4, 3, 2, 1, 0, 9}, 99, func() { k.note("|") }))
	is(t, "P8.4, P8.5", k.String(), "4 | | | | | 4 | 4 | a b c d")
	is(t, "P8.4, P8.5", line, "[4321044] [wpwpd] 6 ErrStuck")
}

// The call in which a body stands gives up by panic, and so does each further one, without ready being asked.
func TestGivesUp(t *testing.T) {
	for _, c := range []struct {
		most, asked int
		want        string
	}{
		{2, 1, "[01] [cc] 0 ErrOver"},  // asked ahead of act 1
		{9, 2, "[01] [ww] 0 ErrStuck"}, // and ahead of the end
	} {
		var k book
		asked := 0
		count := func() bool {
			asked++
			return false
		}
		tell := func(name string, f func()) {
			if caught(f) {
				k.note(name)
			} else {
				k.note(name, "!")
			}
		}
		list := bodies{
			func(b *sched.Baton) {
				defer func() {
					tell("h", b.Step)
					tell("i", func() { b.Wait(count) })
				}()
				tell("a", func() { b.Wait(count) })
				tell("b", b.Step)
				tell("c", func() { b.Wait(count) })
				tell("d", func() { b.Wait(nil) })
				tell("e", func() { b.Wait(always) })
				tell("f", b.Step)
				tell("g", func() { b.Wait(broken) })
			},
			func(b *sched.Baton) {
				defer k.note("n")
				defer b.Step()
				defer b.Wait(always)
				defer b.Step()
				b.Wait(never)
				k.note("!")
			},
		}
		before := runtime.NumGoroutine()
		is(t, "P8.4", told(sched.Run(list, nil, c.most)), c.want)
		is(t, "P8.4", k.String(), "a b c d e f g h i n")
		if asked != c.asked {
			t.Errorf("P8.4, P8.5: most %d: ready was asked %d times, want %d", c.most, asked, c.asked)
		}
		if !ended(before) {
			t.Errorf("P8.4: %d goroutines, there were %d", runtime.NumGoroutine(), before)
		}
	}
}

// One that stands in Step gives up there as well as one that stands in Wait.
func TestGivesUpInStep(t *testing.T) {
	for _, pause := range []func(b *sched.Baton){
		func(b *sched.Baton) { b.Step() },
		func(b *sched.Baton) { b.Wait(nil) },
		func(b *sched.Baton) { b.Wait(always) },
		func(b *sched.Baton) { b.Wait(never) },
	} {
		var k book
		r, no := sched.Run(bodies{func(b *sched.Baton) {
			defer func() {
				if recover() != nil {
					k.note("a panic")
				}
			}()
			pause(b)
			k.note("it comes back")
		}}, nil, 1)
		is(t, "P8.4", k.String(), "a panic")
		is(t, "P8.4", told(r, no), "[0] [c] 0 ErrOver")
	}
}

// A body that catches the panic may go on, as long as it ends: what it does is no act, and nobody acts by it.
func TestUnwoundIsNoAct(t *testing.T) {
	var k book
	x := 0
	ready := func() bool {
		k.note("ask")
		return x > 0
	}
	line := told(sched.Watch(bodies{
		func(b *sched.Baton) {
			caught(b.Step)
			x = 1
			k.note("a", b.Act())
			for range 5 {
				caught(b.Step)
			}
			k.note("b", b.Act())
		},
		func(b *sched.Baton) {
			b.Wait(ready)
			k.note("!")
		},
		steps(1),
	}, nil, 3, func() { k.note("|") }))
	is(t, "P8.4", k.String(), "| | ask | a3 b3")
	is(t, "P8.4", line, "[012] [ccd] 0 ErrOver")
}

// What panics while it is unwound troubles nobody.
func TestUnwoundPanics(t *testing.T) {
	var k book
	body := func(name string) func(*sched.Baton) {
		return func(b *sched.Baton) {
			defer k.note(name)
			defer func() { panic(name) }()
			defer func() {
				recover()
				panic("another one")
			}()
			b.Step()
		}
	}
	line := told(sched.Run(bodies{body("a"), body("b"), steps(1), body("c")}, nil, 4))
	is(t, "P8.4", k.String(), "a b c")
	is(t, "P8.4", line, "[0123] [ccdc] 0 ErrOver")
}

// Who is over is not unwound: its deferred functions have run in its last act, once.
func TestOverIsNotUnwound(t *testing.T) {
	var k book
	line := told(sched.Run(bodies{
		func(b *sched.Baton) { defer k.note("a", b.Thread()) },
		func(b *sched.Baton) {
			defer k.note("b", b.Thread())
			panic("its own")
		},
		func(b *sched.Baton) {
			defer k.note("c", b.Thread())
			b.Step()
		},
	}, nil, 3))
	is(t, "P8.4", k.String(), "a0 b1 c2")
	is(t, "P8.4", line, "[012] [dpc] 0 ErrOver")
}

// A body whose first act was not done never runs.
func TestNeverRuns(t *testing.T) {
	for most := range 9 {
		var ran []int
		body := func(b *sched.Baton) {
			ran = append(ran, b.Thread())
			defer func() { ran = append(ran, b.Thread()+10) }()
			b.Step()
		}
		r, no := sched.Run(slices.Repeat(bodies{body}, 8), nil, most)
		slowly()
		var want []int
		for i := range most {
			want = append(want, i)
		}
		for i := range most {
			want = append(want, i+10)
		}
		if !slices.Equal(ran, want) || no != api.ErrOver || letters(r.Ends) != "cccccccc" {
			t.Errorf("P8.4: most %d: %v ran, want %v; %s", most, ran, want, told(r, no))
		}
	}
}

// However runs end, no goroutine is left, not even of bodies that never ran.
func TestNoGoroutineIsLeft(t *testing.T) {
	before := runtime.NumGoroutine()
	list := bodies{
		steps(2), stuck, fails(2), waitFor(broken), waitFor(always), steps(1), fails(1),
		func(b *sched.Baton) {
			defer b.Step()
			caught(b.Step)
			caught(b.Step)
		},
	}
	for most := range 20 {
		for n := range list {
			sched.Run(list[n:], []byte{5, 3}, most)
			sched.Watch(list[:n+1], nil, most, func() {})
			sched.Run(list[n:n+1], nil, most)
		}
	}
	for range 20 {
		sched.Run(nil, nil, 1)
		sched.Run(append(slices.Clone(list[:3]), nil), nil, 1)
		sched.Run(list, nil, -1)
		sched.Run(list, make([]byte, api.MaxPicks+1), 9)
	}
	if !ended(before) {
		t.Errorf("P8.4: %d goroutines, there were %d", runtime.NumGoroutine(), before)
	}
}

// Ahead of Run's answer all is done: what runs in goroutines does nothing any more.
func TestAllIsDone(t *testing.T) {
	for range 20 {
		count := 0
		body := func(b *sched.Baton) {
			defer func() {
				slowly()
				count++
			}()
			b.Step()
		}
		sched.Run(slices.Repeat(bodies{body}, 8), nil, 8)
		if count != 8 {
			t.Fatalf("P8.4: %d of 8 are unwound when Run answers", count)
		}
	}
}
