package sched_test

import (
	"slices"
	"testing"

	"gleaner/api"
	"gleaner/sched"
)

// One body runs at each moment, and what it did the next one sees.
func TestOneAtATime(t *testing.T) {
	inside, sum := 0, 0
	alone := func(what string) {
		inside++
		if inside != 1 {
			t.Errorf("P8.5: %d run beside one another: %s", inside, what)
		}
		slowly()
		inside--
	}
	ready := func() bool {
		alone("ready")
		return true
	}
	body := func(b *sched.Baton) {
		defer alone("a deferred function")
		for range 4 {
			alone("a body")
			sum++
			b.Step()
			alone("a body")
			sum++
			b.Wait(ready)
		}
	}
	x := dice(5)
	r, no := sched.Run(slices.Repeat(bodies{body}, 8), x.picks(30), 40)
	if no != api.ErrOver || len(r.Acts) != 40 || sum != 40 {
		t.Errorf("P8.5: %d, %s", sum, told(r, no))
	}
	sum = 0
	plain := func(b *sched.Baton) {
		for range 1000 {
			sum++
			b.Step()
		}
	}
	if _, no = sched.Run(slices.Repeat(bodies{plain}, 8), x.picks(500), 9000); no != api.OK || sum != 8000 {
		t.Errorf("P8.5: %d, %d", sum, no)
	}
}

// asking is a body that waits, and notes when it is asked.
func asking(k *book, name string, ready ...func() bool) func(*sched.Baton) {
	return func(b *sched.Baton) {
		for i, f := range ready {
			b.Wait(func() bool {
				k.note(name, i)
				return f()
			})
			k.note("in", name)
		}
	}
}

// Readies are asked once ahead of each act, by number, of those alone that wait then.
func TestAsked(t *testing.T) {
	for _, c := range []struct {
		what  string
		list  func(k *book) bodies
		picks []byte
		most  int
		want  string
		line  string
	}{
		{"no act, nobody is asked", func(k *book) bodies {
			return bodies{asking(k, "a", always)}
		}, nil, 0, "", "[] [c] 0 ErrOver"},
		{"not behind the last of most acts", func(k *book) bodies {
			return bodies{asking(k, "a", always)}
		}, nil, 1, "|", "[0] [c] 0 ErrOver"},
		{"ahead of an act", func(k *book) bodies {
			return bodies{asking(k, "a", always)}
		}, nil, 2, "| a0 ina |", "[00] [d] 0 OK"},
		{"not where all are over", func(k *book) bodies {
			return bodies{asking(k, "a", always, always), steps(1)}
		}, nil, 9, "| a0 | a0 ina | a1 ina |", "[0100] [dd] 0 OK"},
		{"ahead of the end where none is ready", func(k *book) bodies {
			return bodies{asking(k, "a", never), asking(k, "b", never)}
		}, nil, 9, "| a0 | a0 b0", "[01] [ww] 0 ErrStuck"},
		{"ahead of the end where none is ready, and one is over", func(k *book) bodies {
			return bodies{asking(k, "a", never), steps(1), asking(k, "b", never)}
		}, []byte{2, 0, 0}, 9, "| b0 | a0 b0 | a0 b0", "[201] [wdw] 3 ErrStuck"},
		{"not ahead of the end if it comes with most acts", func(k *book) bodies {
			return bodies{asking(k, "a", never), asking(k, "b", never)}
		}, nil, 2, "| a0 |", "[01] [cc] 0 ErrOver"},
		{"by number, whoever came first", func(k *book) bodies {
			return bodies{asking(k, "a", always), asking(k, "b", never), asking(k, "c", always)}
		}, []byte{2, 1, 0, 1, 0}, 9, "| c0 | b0 c0 | a0 b0 c0 inc | a0 b0 ina | b0", "[21020] [dwd] 5 ErrStuck"},
		{"all of them, though the first one is ready", func(k *book) bodies {
			return bodies{asking(k, "a", always), asking(k, "b", always)}
		}, nil, 9, "| a0 | a0 b0 ina | b0 inb |", "[0101] [dd] 0 OK"},
		{"all of them, though the pick falls on one that steps", func(k *book) bodies {
			return bodies{asking(k, "a", always), steps(3)}
		}, []byte{0, 1, 1, 1, 0}, 9, "| a0 | a0 | a0 | a0 ina |", "[01110] [dd] 5 OK"},
		{"of a thread the last Wait's alone", func(k *book) bodies {
			return bodies{asking(k, "a", always, always), asking(k, "b", never)}
		}, []byte{0, 0, 0}, 9, "| a0 ina | a1 ina | | b0", "[0001] [dw] 3 ErrStuck"},
		{"none of one that steps behind a Wait", func(k *book) bodies {
			return bodies{func(b *sched.Baton) {
				asking(k, "a", always)(b)
				b.Step()
				b.Wait(nil)
				b.Step()
			}}
		}, nil, 9, "| a0 ina | | | |", "[00000] [d] 0 OK"},
		{"once where one gives up by panic", func(k *book) bodies {
			return bodies{asking(k, "a", never), asking(k, "b", broken), asking(k, "c", always), steps(2)}
		}, []byte{0, 0, 0, 0, 1}, 9, "| a0 | a0 b0 | a0 c0 inc | a0 | a0 | a0", "[012233] [wpdd] 5 ErrStuck"},
	} {
		var k book
		line := told(sched.Watch(c.list(&k), c.picks, c.most, func() { k.note("|") }))
		is(t, "P8.5: "+c.what, k.String(), c.want)
		is(t, "P8.5: "+c.what, line, c.line)
	}
}

// A ready that panics: its thread is over, though it never acts again; that is no act, and the others go on.
func TestReadyPanics(t *testing.T) {
	var k book
	x := 0
	line := told(sched.Watch(bodies{
		k.writes(0, 4),
		func(b *sched.Baton) {
			defer func() { k.note("z", b.Act(), b.Thread()) }()
			b.Wait(func() bool {
				if x == 2 {
					panic("ready's own")
				}
				return false
			})
			k.note("!")
		},
		func(b *sched.Baton) {
			x = 1
			b.Step()
			x = 2
			b.Step()
			x = 3
			k.note("y")
		},
	}, nil, 99, func() { k.note("|") }))
	is(t, "P8.5", k.String(), "0 | | | 0 | | 0 | y | 0 | z81")
	is(t, "P8.5", line, "[01202020] [dpd] 0 ErrPanic")
	// A panic with nil is one, too.
	is(t, "P8.5", told(sched.Run(bodies{waitFor(func() bool { panic(nil) }), steps(1)}, nil, 9)), "[01] [pd] 0 ErrPanic")
}

// Its Wait gives up by panic, and so does every further call.
func TestReadyPanicsAndWaitGivesUp(t *testing.T) {
	var k book
	line := told(sched.Run(bodies{func(b *sched.Baton) {
		for range 3 {
			if caught(func() { b.Wait(broken) }) {
				k.note("a")
			}
			if caught(b.Step) {
				k.note("b")
			}
		}
	}, k.writes(1, 2)}, nil, 9))
	is(t, "P8.5, P8.4", k.String(), "1 1 a b a b a b")
	is(t, "P8.5, P8.4", line, "[011] [pd] 0 ErrPanic")
}

// Of a ready that panics no pick is used, and the picks fall on the others.
func TestReadyPanicsAndPicks(t *testing.T) {
	is(t, "P8.5", told(sched.Run(bodies{waitFor(broken), steps(2), steps(2)}, []byte{0, 1, 1, 1, 1}, 99)), "[02211] [pdd] 5 ErrPanic")
}

func TestNilBaton(t *testing.T) {
	asked := false
	ask := func() bool {
		asked = true
		return true
	}
	for _, b := range []*sched.Baton{nil, {}} {
		b.Step()
		b.Wait(nil)
		b.Wait(ask)
		b.Wait(never)
		b.Wait(broken)
		if asked || b.Thread() != 0 || b.Act() != 0 {
			t.Errorf("P8.5: a nil Baton: asked %v, Thread %d, Act %d", asked, b.Thread(), b.Act())
		}
	}
	// In a body, too: no act ends by it.
	var none *sched.Baton
	is(t, "P8.5", told(sched.Run(bodies{steps(2), func(b *sched.Baton) {
		none.Step()
		none.Wait(never)
		b.Step()
		none.Step()
	}}, nil, 9)), "[0101] [dd] 0 OK")
}

// overs is a run of each kind of end, which keeps the batons of bodies that began.
func overs(kept *[]*sched.Baton) []api.Errno {
	keep := func(body func(*sched.Baton)) func(*sched.Baton) {
		return func(b *sched.Baton) {
			*kept = append(*kept, b)
			body(b)
		}
	}
	list := bodies{keep(steps(2)), keep(steps(3)), keep(fails(2)), keep(waitFor(broken)), keep(stuck)}
	var out []api.Errno
	for _, c := range []struct{ bodies, most int }{{2, 99}, {5, 5}, {5, 6}, {5, 99}, {4, 99}} {
		_, no := sched.Run(list[:c.bodies], []byte{1}, c.most)
		out = append(out, no)
	}
	return out
}

func TestBatonBehindTheAnswer(t *testing.T) {
	var kept []*sched.Baton
	if got, want := overs(&kept), []api.Errno{api.OK, api.ErrOver, api.ErrOver, api.ErrStuck, api.ErrPanic}; !slices.Equal(got, want) {
		t.Errorf("P8.3: %v, want %v", got, want)
	}
	if len(kept) != 21 {
		t.Errorf("P8.2: %d bodies began", len(kept))
	}
	asked := false
	for i, b := range kept {
		for range 2 {
			b.Step()
			b.Wait(nil)
			b.Wait(never)
			b.Wait(func() bool {
				asked = true
				return true
			})
			if asked || b.Thread() != 0 || b.Act() != 0 {
				t.Errorf("P8.5: baton %d behind the answer: asked %v, Thread %d, Act %d", i, asked, b.Thread(), b.Act())
			}
		}
	}
	// In a body of another run they do nothing, either: no act ends by them.
	var k book
	line := told(sched.Run(bodies{steps(1), func(b *sched.Baton) {
		for _, old := range kept {
			old.Step()
			old.Wait(never)
			k.note(old.Thread(), old.Act())
		}
		b.Step()
	}}, nil, 9))
	is(t, "P8.5", line, "[011] [dd] 0 OK")
	if slices.ContainsFunc(k, func(s string) bool { return s != "00" }) {
		t.Errorf("P8.5: %v", k)
	}
}

func TestThreadAndAct(t *testing.T) {
	var k book
	body := func(acts int) func(*sched.Baton) {
		return func(b *sched.Baton) {
			defer func() { k.note("end", b.Thread(), ".", b.Act()) }()
			for i := range acts {
				if i > 0 {
					b.Step()
				}
				k.note(b.Thread(), ".", b.Act())
			}
		}
	}
	failing := func(b *sched.Baton) {
		defer func() { k.note("end", b.Thread(), ".", b.Act()) }()
		b.Wait(always)
		panic("its own")
	}
	line := told(sched.Run(bodies{body(2), body(9), failing, body(9)}, []byte{3, 2, 1}, 9))
	is(t, "P8.5", k.String(), "3.0 1.2 end2.3 3.4 0.5 1.6 3.7 0.8 end0.8 end1.9 end3.9")
	is(t, "P8.5", line, "[321230130] [dcpc] 3 ErrOver")
}

// Each of eight has its own number, whoever acts, and the acts are counted over all of them.
func TestThreads(t *testing.T) {
	acts, wrong := 0, 0
	list := make(bodies, 8)
	for i := range list {
		list[i] = func(b *sched.Baton) {
			for j := range 50 {
				if j > 0 {
					b.Step()
				}
				if b.Thread() != i || b.Act() != acts {
					wrong++
				}
				acts++
			}
		}
	}
	x := dice(6)
	r, no := sched.Run(list, x.picks(350), 400)
	if wrong > 0 || acts != 400 || no != api.OK {
		t.Errorf("P8.5: %d of %d wrong; %s", wrong, acts, told(r, no))
	}
}

// Who looks at another thread's baton is told of that thread, as long as the run has not answered, be it over or not.
func TestBatonsOfOthers(t *testing.T) {
	var k book
	var all [3]*sched.Baton
	look := func(b *sched.Baton, what string) {
		k.note(what)
		for _, other := range all {
			k.note(other.Thread(), ".", other.Act())
		}
	}
	body := func(b *sched.Baton) {
		all[b.Thread()] = b
		defer func() { look(b, "end") }()
		b.Step()
		if b.Thread() == 1 {
			look(b, "act")
			return
		}
		b.Wait(never)
	}
	line := told(sched.Run(bodies{body, body, body}, nil, 99))
	is(t, "P8.5", k.String(), "act 0.4 1.4 2.4 end 0.4 1.4 2.4 end 0.6 1.6 2.6 end 0.6 1.6 2.6")
	is(t, "P8.5", line, "[012012] [wdw] 0 ErrStuck")
}
