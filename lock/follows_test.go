package lock_test

import (
	"slices"
	"strconv"
	"strings"
	"testing"

	"gleaner/api"
	"gleaner/lock"
	"gleaner/sched"
)

// P9.6: over bodies that lock and unlock in pairs, behind every act, one has a lock at most, and no reader has what a writer has.
func TestOneAtATime(t *testing.T) {
	x := dice(96)
	shared, had := 0, map[string]int{}
	for i := range 4000 {
		w := made()
		p := x.play(0)
		var wrong string
		_, no := w.run(p, func() {
			for thing, n := range w.has {
				if n > 0 {
					had[thing]++
				}
				if thing == "rw.R" && n > 1 {
					shared++
				}
				if thing != "rw.R" && n > 1 || n < 0 {
					wrong += strconv.Itoa(n) + " have " + thing + "; "
				}
			}
			if w.has["rw."] > 0 && w.has["rw.R"] > 0 {
				wrong += "a reader beside a writer; "
			}
			if w.rw.Writer() != (w.has["rw."] == 1) || w.rw.Readers() != w.has["rw.R"] || (w.m.Holder() != -1) != (w.has["m."] == 1) {
				wrong += "not who is told; "
			}
		})
		if wrong != "" || no == api.ErrPanic {
			t.Fatalf("P9.6: play %d, %+v: %s %s", i, p, wrong, name(no))
		}
		if no == api.OK && w.look() != fresh {
			t.Fatalf("P9.6: play %d, %+v: at its end %s", i, p, w.look())
		}
	}
	// All of them must have been had, else this shows little.
	for _, thing := range []string{"m.", "n.", "f.", "rw.", "rw.R"} {
		if had[thing] < 1000 {
			t.Errorf("P9.6: %s was had behind %d acts alone", thing, had[thing])
		}
	}
	if shared < 500 {
		t.Errorf("P9.6: readers were beside one another behind %d acts alone", shared)
	}
}

// rounds is bodies that do a program in some rounds, with steps of their own between.
func (x *dice) rounds(program string) string {
	var s []string
	for range 1 + x.throw(3) {
		s = append(s, strings.Repeat("step ", x.throw(3)), strings.Replace(program, " ", strings.Repeat(" step", x.throw(3))+" ", 1))
	}
	return strings.Join(s, " ")
}

// P9.7: a Fair is had in the order of asking: whose act makes one more wait, by that order its acts make one less wait.
func TestFairOrder(t *testing.T) {
	x := dice(97)
	most := 0
	for i := range 2000 {
		w := made()
		var p play
		for range 2 + x.throw(7) {
			p.programs = append(p.programs, x.rounds("f.Lock f.Unlock"))
		}
		p.picks = x.picks(x.throw(120))
		var counts []int
		r, no := w.run(p, func() { counts = append(counts, w.f.Waiting()) })
		var asked, had []uint8
		last := 0
		for act, n := range counts {
			switch n - last {
			case 1:
				asked = append(asked, r.Acts[act])
			case -1:
				had = append(had, r.Acts[act])
			}
			last = n
			most = max(most, n)
		}
		if no != api.OK || !slices.Equal(asked, had) || len(had) < len(p.programs) {
			t.Fatalf("P9.7: play %d, %+v: asked %v, had %v; %s", i, p, asked, had, name(no))
		}
	}
	if most < 7 {
		t.Errorf("P9.7: only %d waited at one time", most)
	}
}

// want is a call that asks for a lock: whose, in which act it was made, and in which it had what it asked for.
type want struct{ thread, called, had int }

// never is an act that none is behind.
const never = 1 << 30

// wants does a call that asks for a lock, and writes it in a list.
func wants(list *[]want, b *sched.Baton, ask func(*sched.Baton) api.Errno) {
	at := len(*list)
	*list = append(*list, want{b.Thread(), b.Act(), never})
	ask(b)
	(*list)[at].had = b.Act()
}

// P9.7: no reader gets an RW while a writer waits, whatever the picks.
func TestNoFurtherReader(t *testing.T) {
	x := dice(979)
	kept := 0
	for i := range 2000 {
		m := lock.NewRW()
		var readers, writers []want
		read := func(b *sched.Baton) {
			for range 2 {
				wants(&readers, b, m.RLock)
				b.Step()
				m.RUnlock(b)
			}
		}
		write := func(b *sched.Baton) {
			wants(&writers, b, m.Lock)
			m.Unlock(b)
		}
		r, _ := sched.Run([]func(*sched.Baton){read, write, read, write, read}, x.picks(x.throw(40)), 5+x.throw(60))
		for _, w := range writers {
			// It waits from its next act on, which is the one behind its step.
			asks := next(r.Acts, w.thread, w.called)
			for _, v := range readers {
				if asks < v.had && v.had < w.had {
					t.Fatalf("P9.7: run %d: a reader got it in act %d, a writer waited from act %d to %d", i, v.had, asks, w.had)
				}
				if asks < v.called && v.called < w.had {
					kept++
				}
			}
		}
	}
	if kept < 1000 {
		t.Errorf("P9.7: only %d readers asked while a writer waited", kept)
	}
}

// next is a thread's next act behind another one.
func next(acts []uint8, thread, act int) int {
	for i := act + 1; i < len(acts); i++ {
		if int(acts[i]) == thread {
			return i
		}
	}
	return never
}

// adders is bodies that add one to a cell in loops of Load and Cas, and count the loops that ended and those that went round once more.
func adders(c *lock.Cell[int], threads, loops int, ended, again *int) []func(*sched.Baton) {
	var list []func(*sched.Baton)
	for range threads {
		list = append(list, func(b *sched.Baton) {
			for range loops {
				for v := c.Load(b); !c.Cas(b, v, v+1); v = c.Load(b) {
					*again++
				}
				*ended++
			}
		})
	}
	return list
}

// P9.8: loops of Load and Cas beside one another lose nothing, whatever the picks, and wherever the run is broken off.
func TestCasLoops(t *testing.T) {
	x := dice(98)
	rounds := 0
	for i := range 2000 {
		begin, ended, again := x.throw(100)-50, 0, 0
		c := lock.NewCell(begin)
		threads, loops := 1+x.throw(8), x.throw(5)
		most := 1 << 20
		if x.throw(2) == 0 {
			most = x.throw(60)
		}
		r, no := sched.Run(adders(c, threads, loops, &ended, &again), x.picks(x.throw(100)), most)
		rounds += again
		calls := c.Acts()
		if got := c.Load(nil); got != begin+ended {
			t.Fatalf("P9.8: run %d: from %d to %d in %d loops", i, begin, got, ended)
		}
		if no == api.OK && (ended != threads*loops || calls != 2*(ended+again) || len(r.Acts) != threads+calls) {
			t.Fatalf("P9.8: run %d: %d loops of %d ended, %d went round again: %d calls, %d acts", i, ended, threads*loops, again, calls, len(r.Acts))
		}
	}
	if rounds < 1000 {
		t.Errorf("P9.8: only %d loops had to go round again", rounds)
	}
}
