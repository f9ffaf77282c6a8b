package lock_test

import (
	"strconv"
	"strings"
	"testing"
)

func holder(w *world) string { return strconv.Itoa(w.m.Holder()) }

// P9.1: what each call answers, and in which act it takes effect, where nobody, who calls and another thread has it.
func TestMutex(t *testing.T) {
	two := threads("m.Lock step m.Unlock", "m.Lock step m.Unlock")
	scenes(t, "P9.1", holder, []scene{
		{threads("m.Lock m.Unlock"), "", "0:-1 | 0 OK:0 | 0 OK:-1 | OK"},
		{threads("m.TryLock m.Unlock"), "", "0:-1 | 0 trueOK:0 | 0 OK:-1 | OK"},
		{threads("m.Unlock"), "", "0:-1 | 0 ErrOwner:-1 | OK"},
		{threads("m.Lock m.Unlock m.Unlock"), "", "0:-1 | 0 OK:0 | 0 OK:-1 | 0 ErrOwner:-1 | OK"},
		{threads("m.Lock m.TryLock m.Unlock"), "", "0:-1 | 0 OK:0 | 0 falseOK:0 | 0 OK:-1 | OK"},
		{threads("m.Lock m.Unlock m.Lock m.Unlock m.TryLock"), "", "0:-1 | 0 OK:0 | 0 OK:-1 | 0 OK:0 | 0 OK:-1 | 0 trueOK:0 | OK"},
		{threads("m.Lock m.Lock"), "", "0:-1 | 0 OK:0 | ErrStuck"},
		{two, "0000", "0:-1 | 0 OK:0 | 0:0 | 0 OK:-1 | 1:-1 | 1 OK:1 | 1:1 | 1 OK:-1 | OK"},
		{two, "00100", "0:-1 | 0 OK:0 | 1:0 | 0:0 | 0 OK:-1 | 1 OK:1 | 1:1 | 1 OK:-1 | OK"},
		{two, "1011", "1:-1 | 0:-1 | 1 OK:1 | 1:1 | 1 OK:-1 | 0 OK:0 | 0:0 | 0 OK:-1 | OK"},
		{threads("m.Lock step step m.Unlock", "m.TryLock m.Unlock"), "00111", "0:-1 | 0 OK:0 | 1:0 | 1 falseOK:0 | 1 ErrOwner:0 | 0:0 | 0:0 | 0 OK:-1 | OK"},
		{threads("m.TryLock m.Unlock", "m.TryLock m.Unlock"), "0110", "0:-1 | 1:-1 | 1 trueOK:1 | 0 falseOK:1 | 1 OK:-1 | 0 ErrOwner:-1 | OK"},
		{threads("m.Lock", "m.Unlock m.Lock"), "0011", "0:-1 | 0 OK:0 | 1:0 | 1 ErrOwner:0 | ErrStuck"},
	})
}

// P9.1: the pick that falls on a thread that waits falls on another one.
func TestMutexPicks(t *testing.T) {
	two := threads("m.Lock step m.Unlock", "m.Lock step m.Unlock")
	w := made()
	got := w.film(play{two, []byte{0, 0, 1, 1, 1}, 0}, func() string { return holder(w) })
	is(t, "P9.1: picks 0 0 1 1 1", got, "0:-1 | 0 OK:0 | 1:0 | 0:0 | 0 OK:-1 | 1 OK:1 | 1:1 | 1 OK:-1 | OK")
	for order, want := range map[string]string{"0": "01", "00": "01", "01": "01", "001": "0", "010": "0", "011": "1", "0010": "0", "00100": "1"} {
		is(t, "P9.1: who is ready behind "+order, readyBehind(t, two, order), want)
	}
}

// P9.1: two threads that wait for one another's.
func TestMutexBoth(t *testing.T) {
	both := func(w *world) string { return strconv.Itoa(w.m.Holder()) + "," + strconv.Itoa(w.n.Holder()) }
	cross := threads("m.Lock n.Lock n.Unlock m.Unlock", "n.Lock m.Lock m.Unlock n.Unlock")
	scenes(t, "P9.1", both, []scene{
		{cross, "0011", "0:-1,-1 | 0 OK:0,-1 | 1:0,-1 | 1 OK:0,1 | ErrStuck"},
		{cross, "0000011", "0:-1,-1 | 0 OK:0,-1 | 0 OK:0,0 | 0 OK:0,-1 | 0 OK:-1,-1 | 1:-1,-1 | 1 OK:-1,1 | 1 OK:1,1 | 1 OK:-1,1 | 1 OK:-1,-1 | OK"},
	})
	// One in which each has one of them leaves it so.
	w := made()
	w.film(play{programs: cross}, w.look)
	is(t, "P9.1: behind the run", both(w), "0,1")
}

// P9.1: Holder tells the number of each of eight threads.
func TestMutexHolder(t *testing.T) {
	var programs, want []string
	for i := range 8 {
		programs = append(programs, "m.TryLock m.Unlock")
		who := strconv.Itoa(i)
		want = append(want, who+":-1 | "+who+" trueOK:"+who+" | "+who+" OK:-1 | ")
	}
	scenes(t, "P9.1", holder, []scene{{programs, "000111222333444555666777", strings.Join(want, "") + "OK"}})
}

// P9.1: without a baton, who calls is -2, alone and beside threads.
func TestMutexAlone(t *testing.T) {
	w := made()
	look := func() string { return holder(w) }
	is(t, "P9.1: alone", w.alone("m.Lock", look), "OK :-2")
	is(t, "P9.1: alone", w.alone("m.Lock m.TryLock", look), "ErrAlone falseOK :-2")
	is(t, "P9.1: alone", w.alone("m.Unlock m.Unlock", look), "OK ErrOwner :-1")
	is(t, "P9.1: alone", w.alone("m.TryLock m.TryLock m.Lock ^m.Lock ^m.Unlock ^m.Lock", look), "trueOK falseOK ErrAlone ErrAlone OK OK :-2")
	scenes(t, "P9.1", holder, []scene{
		{threads("~m.Lock m.Unlock ~m.Unlock"), "", "0 OK:-2 | 0 ErrOwner OK:-1 | OK"},
		{threads("m.Lock ~m.Unlock ~m.Lock ~m.TryLock m.Unlock ~m.TryLock"), "", "0:-1 | 0 OK ErrOwner ErrAlone falseOK:0 | 0 OK trueOK:-2 | OK"},
		{threads("^m.TryLock m.TryLock ^m.Unlock"), "", "0 trueOK:-2 | 0 falseOK OK:-1 | OK"},
		{threads("~m.Lock step ~m.Unlock", "m.Lock"), "010", "0 OK:-2 | 1:-2 | 0 OK:-1 | 1 OK:1 | OK"},
	})
}
