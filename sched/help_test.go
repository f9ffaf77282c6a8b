package sched_test

import (
	"os"
	"runtime"
	"strconv"
	"strings"
	"testing"
	"time"

	"gleaner/api"
	"gleaner/sched"
)

// A run that never ends is told, not waited for.
func TestMain(m *testing.M) {
	time.AfterFunc(time.Minute, func() { panic("P8.4: some run does not end") })
	os.Exit(m.Run())
}

type bodies = []func(*sched.Baton)

// dice throws numbers that look like chance and are the same in each run.
type dice uint64

func (x *dice) throw(n int) int {
	*x = *x*6364136223846793005 + 1442695040888963407
	return int(uint64(*x)>>33) % n
}

func (x *dice) picks(n int) []byte {
	out := make([]byte, n)
	for i := range out {
		out[i] = byte(x.throw(256))
	}
	return out
}

// digits is a list of small numbers as a text.
func digits[N int | uint8](list []N) string {
	var s strings.Builder
	for _, n := range list {
		s.WriteString(strconv.Itoa(int(n)))
	}
	return s.String()
}

// letters is how threads ended: done, panic, wait, cut.
func letters(ends []api.ThreadEnd) string {
	var s strings.Builder
	for _, e := range ends {
		switch e {
		case api.ThreadDone:
			s.WriteByte('d')
		case api.ThreadPanic:
			s.WriteByte('p')
		case api.ThreadWait:
			s.WriteByte('w')
		case api.ThreadCut:
			s.WriteByte('c')
		default:
			s.WriteString("?" + strconv.Itoa(int(e)))
		}
	}
	return s.String()
}

// told is all that a run answers, on one line.
func told(r api.Report, no api.Errno) string {
	name := strconv.Itoa(int(no))
	switch no {
	case api.OK:
		name = "OK"
	case api.ErrArg:
		name = "ErrArg"
	case api.ErrLong:
		name = "ErrLong"
	case api.ErrOver:
		name = "ErrOver"
	case api.ErrStuck:
		name = "ErrStuck"
	case api.ErrPanic:
		name = "ErrPanic"
	}
	return "[" + digits(r.Acts) + "] [" + letters(r.Ends) + "] " + strconv.Itoa(r.Used) + " " + name
}

// is holds two texts against one another.
func is(t *testing.T, what, got, want string) {
	t.Helper()
	if got != want {
		t.Errorf("%s:\n got %s\nwant %s", what, got, want)
	}
}

// book is what bodies write in.
type book []string

func (k *book) note(words ...any) {
	var s strings.Builder
	for _, w := range words {
		switch x := w.(type) {
		case string:
			s.WriteString(x)
		case int:
			s.WriteString(strconv.Itoa(x))
		}
	}
	*k = append(*k, s.String())
}

func (k book) String() string { return strings.Join(k, " ") }

// writes is the chapter's body(n, k).
func (k *book) writes(n, times int) func(*sched.Baton) {
	return func(b *sched.Baton) {
		for i := range times {
			if i > 0 {
				b.Step()
			}
			k.note(n)
		}
	}
}

// steps is a body of so many acts.
func steps(acts int) func(*sched.Baton) {
	return func(b *sched.Baton) {
		for range acts - 1 {
			b.Step()
		}
	}
}

func never() bool  { return false }
func always() bool { return true }

// stuck is a body that waits for what never holds.
func stuck(b *sched.Baton) { b.Wait(never) }

// fails is a body that panics in the last of so many acts.
func fails(acts int) func(*sched.Baton) {
	return func(b *sched.Baton) {
		for range acts - 1 {
			b.Step()
		}
		panic("a body's own")
	}
}

// caught tells whether f panics.
func caught(f func()) (yes bool) {
	yes = true
	defer func() { recover() }()
	f()
	return false
}

// slowly is time enough for somebody else to act, who should not.
func slowly() {
	for range 10 {
		runtime.Gosched()
	}
	time.Sleep(time.Millisecond)
}

// ended tells whether there are no more goroutines than there were: one that has done its last may still be counted for a moment.
func ended(before int) bool {
	for range 500 {
		if runtime.NumGoroutine() <= before {
			return true
		}
		time.Sleep(time.Millisecond)
	}
	return false
}
