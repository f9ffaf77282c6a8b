package sched_test

import (
	"testing"

	"gleaner/api"
	"gleaner/sched"
)

// Behind is called behind each act, however it ended, and at no other time: not ahead of the first, nor for a ready that panics, nor when bodies are unwound.
func TestBehind(t *testing.T) {
	for _, c := range []struct {
		what string
		list func(k *book) bodies
		most int
		want string
		line string
	}{
		{"steps and ends", func(k *book) bodies { return bodies{k.writes(0, 2), k.writes(1, 1)} }, 9, "0 | 1 | 0 |", "[010] [dd] 0 OK"},
		{"behind the last of most acts", func(k *book) bodies { return bodies{k.writes(0, 2), k.writes(1, 1)} }, 2, "0 | 1 |", "[01] [cd] 0 ErrOver"},
		{"no acts", func(k *book) bodies { return bodies{k.writes(0, 2)} }, 0, "", "[] [c] 0 ErrOver"},
		{"a panic", func(k *book) bodies { return bodies{fails(2), k.writes(1, 1)} }, 9, "| 1 | |", "[010] [pd] 0 ErrPanic"},
		{"stuck", func(k *book) bodies { return bodies{stuck, stuck} }, 9, "| |", "[01] [ww] 0 ErrStuck"},
		{"a ready that panics", func(k *book) bodies {
			return bodies{func(b *sched.Baton) {
				defer k.note("z")
				b.Wait(func() bool { panic("ready's own") })
			}, k.writes(1, 2)}
		}, 9, "| 1 | 1 | z", "[011] [pd] 0 ErrPanic"},
		{"bodies that are unwound", func(k *book) bodies {
			body := func(b *sched.Baton) {
				defer k.note("z")
				b.Step()
			}
			return bodies{body, body}
		}, 2, "| | z z", "[01] [cc] 0 ErrOver"},
	} {
		var k book
		line := told(sched.Watch(c.list(&k), nil, c.most, func() { k.note("|") }))
		is(t, "P8.2a: "+c.what, k.String(), c.want)
		is(t, "P8.2a: "+c.what, line, c.line)
	}
}

// Watch without behind is Run.
func TestBehindNil(t *testing.T) {
	for _, most := range []int{0, 1, 3, 5, 9} {
		for _, picks := range [][]byte{nil, {1}, {1, 1, 0}, {2, 2, 2, 2, 2, 2}} {
			var k, l book
			list := func(k *book) bodies { return bodies{k.writes(0, 2), k.writes(1, 2), fails(2), stuck} }
			got := told(sched.Watch(list(&k), picks, most, nil))
			want := told(sched.Run(list(&l), picks, most))
			is(t, "P8.2a", got, want)
			is(t, "P8.2a", k.String(), l.String())
		}
	}
}

// Behind comes ahead of anything else: readies are asked, and the next thread is found, behind it.
func TestBehindComesFirst(t *testing.T) {
	var k book
	open := false
	ready := func() bool {
		k.note("ask")
		return open
	}
	line := told(sched.Watch(bodies{func(b *sched.Baton) {
		k.note("a")
		b.Wait(ready)
		k.note("b")
	}, k.writes(1, 2)}, nil, 9, func() { k.note("|") }))
	is(t, "P8.2a", k.String(), "a | ask 1 | ask 1 | ask")
	is(t, "P8.2a", line, "[011] [wd] 0 ErrStuck")
}

// What behind changes the bodies see, and a thread becomes ready by it, even if else none is.
func TestBehindChanges(t *testing.T) {
	x := 0
	var k book
	wait := func(n int) func(b *sched.Baton) {
		return func(b *sched.Baton) {
			b.Wait(func() bool { return x >= n })
			k.note("x", x)
			x = 10
		}
	}
	calls := 0
	behind := func() {
		calls++
		if calls == 2 {
			x = 3
		}
	}
	line := told(sched.Watch(bodies{wait(3), wait(4)}, nil, 9, behind))
	is(t, "P8.2a", k.String(), "x3 x10")
	is(t, "P8.2a", line, "[0101] [dd] 0 OK")
	// And one that was ready is ready no more.
	x, calls = 5, 0
	line = told(sched.Watch(bodies{wait(5), steps(2)}, nil, 9, func() { x = 0 }))
	is(t, "P8.2a", line, "[011] [wd] 0 ErrStuck")
}

// While behind runs no body does: all of an act is done, nothing of the next one is.
func TestBehindIsAlone(t *testing.T) {
	inside, whole, calls := 0, 0, 0
	body := func(b *sched.Baton) {
		for range 20 {
			inside++
			slowly()
			inside--
			whole++
			b.Step()
		}
	}
	r, no := sched.Watch(bodies{body, body, body}, nil, 60, func() {
		calls++
		slowly()
		if inside != 0 || whole != calls {
			t.Errorf("P8.2a: behind act %d: %d inside, %d whole", calls, inside, whole)
		}
	})
	if no != api.ErrOver || len(r.Acts) != 60 || calls != 60 {
		t.Errorf("P8.2a: %d acts, %d calls, %d", len(r.Acts), calls, no)
	}
}
