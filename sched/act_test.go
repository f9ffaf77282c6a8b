package sched_test

import (
	"testing"

	"gleaner/sched"
)

// marked is a run with a bar behind each act, so that it is seen where acts begin and end.
func marked(t *testing.T, what string, list func(k *book) bodies, picks []byte, want, wantLine string) {
	t.Helper()
	var k book
	line := told(sched.Watch(list(&k), picks, 99, func() { k.note("|") }))
	is(t, what, k.String(), want)
	is(t, what, line, wantLine)
}

func TestAnActEndsInStep(t *testing.T) {
	marked(t, "P8.1: Step", func(k *book) bodies {
		return bodies{func(b *sched.Baton) {
			k.note("a")
			k.note("b")
			b.Step()
			k.note("c")
			b.Step()
			b.Step()
			k.note("d")
		}}
	}, nil, "a b | c | | d |", "[0000] [d] 0 OK")
}

func TestAnActEndsInWait(t *testing.T) {
	marked(t, "P8.1: Wait, also for what holds", func(k *book) bodies {
		return bodies{func(b *sched.Baton) {
			k.note("a")
			b.Wait(always)
			k.note("b")
			b.Wait(nil)
			k.note("c")
		}}
	}, nil, "a | b | c |", "[000] [d] 0 OK")
	marked(t, "P8.1: Wait at the very end", func(k *book) bodies {
		return bodies{func(b *sched.Baton) { b.Wait(always) }}
	}, nil, "| |", "[00] [d] 0 OK")
}

func TestAnActEndsWithTheBody(t *testing.T) {
	marked(t, "P8.1: a body that does nothing", func(k *book) bodies {
		return bodies{func(*sched.Baton) {}, func(*sched.Baton) {}}
	}, nil, "| |", "[01] [dd] 0 OK")
	marked(t, "P8.1: deferred functions are of the last act", func(k *book) bodies {
		return bodies{func(b *sched.Baton) {
			defer k.note("z")
			k.note("a")
			b.Step()
			k.note("b")
		}, k.writes(7, 2)}
	}, nil, "a | 7 | b z | 7 |", "[0101] [dd] 0 OK")
	marked(t, "P8.1: a Step in a deferred function ends an act as any other", func(k *book) bodies {
		return bodies{func(b *sched.Baton) {
			defer func() {
				k.note("y")
				b.Step()
				k.note("z")
			}()
			k.note("a")
		}, k.writes(7, 1)}
	}, nil, "a y | 7 | z |", "[010] [dd] 0 OK")
}

func TestAnActEndsWithAPanic(t *testing.T) {
	marked(t, "P8.1: a panic", func(k *book) bodies {
		return bodies{func(b *sched.Baton) {
			defer k.note("z")
			b.Step()
			k.note("a")
			panic("its own")
		}, k.writes(7, 3)}
	}, nil, "| 7 | a z | 7 | 7 |", "[01011] [pd] 0 ErrPanic")
	marked(t, "P8.1: a panic of the language's own", func(k *book) bodies {
		return bodies{func(b *sched.Baton) {
			var none []int
			k.note(none[b.Thread()])
		}}
	}, nil, "|", "[0] [p] 0 ErrPanic")
	marked(t, "P8.1: a panic with nil", func(k *book) bodies {
		return bodies{func(*sched.Baton) { panic(nil) }}
	}, nil, "|", "[0] [p] 0 ErrPanic")
	marked(t, "P8.1: a panic that the body catches itself is none", func(k *book) bodies {
		return bodies{func(b *sched.Baton) {
			if caught(func() {
				b.Step()
				panic("its own")
			}) {
				k.note("a")
			}
			b.Step()
			k.note("b")
		}}
	}, nil, "| a | b |", "[000] [d] 0 OK")
	marked(t, "P8.1: a body that steps while it gives up", func(k *book) bodies {
		return bodies{func(b *sched.Baton) {
			defer func() {
				b.Step()
				k.note("z")
			}()
			k.note("a")
			panic("its own")
		}, k.writes(7, 1)}
	}, nil, "a | 7 | z |", "[010] [pd] 0 ErrPanic")
	marked(t, "P8.1: a body that gives up twice", func(k *book) bodies {
		return bodies{func(b *sched.Baton) {
			defer func() { panic("another one") }()
			panic("its own")
		}}
	}, nil, "|", "[0] [p] 0 ErrPanic")
}

// Acts begin and end where Step and Wait are called, however deep that is.
func TestAnActEndsDeepDown(t *testing.T) {
	var k book
	var down func(b *sched.Baton, n int)
	down = func(b *sched.Baton, n int) {
		k.note("in", n)
		if n > 0 {
			b.Step()
			down(b, n-1)
			b.Wait(always)
		}
		k.note("out", n)
	}
	line := told(sched.Watch(bodies{func(b *sched.Baton) { down(b, 2) }}, nil, 99, func() { k.note("|") }))
	is(t, "P8.1", k.String(), "in2 | in1 | in0 out0 | out1 | out2 |")
	is(t, "P8.1", line, "[00000] [d] 0 OK")
}

// Who is ready is seen by whom the picks fall on.
func TestReady(t *testing.T) {
	x := 0
	one := func() bool { return x == 1 }
	waits := func(b *sched.Baton) { b.Wait(one) }
	for _, c := range []struct {
		what  string
		list  bodies
		picks []byte
		want  string
	}{
		{"all whose first act is to come", bodies{steps(1), steps(1), steps(1)}, []byte{2, 1, 0}, "[210] [ddd] 3 OK"},
		{"one that steps", bodies{steps(3), steps(2)}, []byte{0, 0, 1, 0, 0}, "[00101] [dd] 5 OK"},
		{"one that waits for what does not hold is not", bodies{waits, steps(3)}, []byte{0, 0, 0, 0}, "[0111] [wd] 4 ErrStuck"},
		{"one that waits for what holds", bodies{func(b *sched.Baton) { b.Wait(always) }, steps(2)}, []byte{0, 1, 0, 0}, "[0101] [dd] 4 OK"},
		{"one that is over is not", bodies{steps(1), fails(1), steps(2)}, []byte{0, 0, 0, 0}, "[0122] [dpd] 4 ErrPanic"},
		{"one that waited, and then steps", bodies{func(b *sched.Baton) {
			b.Wait(func() bool { return x == 0 })
			x = 5
			b.Step()
			b.Step()
		}, steps(1)}, []byte{0, 0, 0, 0}, "[00001] [dd] 4 OK"},
	} {
		x = 0
		is(t, "P8.1: "+c.what, told(sched.Run(c.list, c.picks, 99)), c.want)
	}
}

// What a thread waits for is asked as things stand then: it may hold, and hold no more.
func TestReadyComesAndGoes(t *testing.T) {
	x := 0
	line := told(sched.Run(bodies{
		func(b *sched.Baton) { b.Wait(func() bool { return x%2 == 1 }) },
		func(b *sched.Baton) {
			for range 4 {
				x++
				b.Step()
			}
		},
	}, []byte{0, 0, 1, 0, 0}, 99))
	is(t, "P8.1", line, "[0111011] [dd] 5 OK")
}
