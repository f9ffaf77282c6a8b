package lock_test

import (
	"strconv"
	"testing"
)

func readers(w *world) string {
	if w.rw.Writer() {
		return strconv.Itoa(w.rw.Readers()) + "w"
	}
	return strconv.Itoa(w.rw.Readers()) + "-"
}

// P9.3: what each call answers, and who has it behind each act.
func TestRW(t *testing.T) {
	scenes(t, "P9.3", readers, []scene{
		{threads("rw.RLock rw.RUnlock"), "", "0:0- | 0 OK:1- | 0 OK:0- | OK"},
		{threads("rw.Lock rw.Unlock"), "", "0:0- | 0:0- | 0 OK:0w | 0 OK:0- | OK"},
		{threads("rw.RLock rw.RLock rw.RUnlock rw.RUnlock rw.RUnlock"), "", "0:0- | 0 OK:1- | 0 OK:2- | 0 OK:1- | 0 OK:0- | 0 ErrOwner:0- | OK"},
		{threads("rw.RUnlock rw.Unlock"), "", "0:0- | 0 ErrOwner:0- | 0 ErrOwner:0- | OK"},
		{threads("rw.RLock rw.Unlock rw.RUnlock"), "", "0:0- | 0 OK:1- | 0 ErrOwner:1- | 0 OK:0- | OK"},
		{threads("rw.Lock rw.RUnlock rw.Unlock"), "", "0:0- | 0:0- | 0 OK:0w | 0 ErrOwner:0w | 0 OK:0- | OK"},
		{threads("rw.RLock rw.RUnlock", "rw.RLock rw.RUnlock"), "0011", "0:0- | 0 OK:1- | 1:1- | 1 OK:2- | 0 OK:1- | 1 OK:0- | OK"},
		{threads("rw.Lock step step rw.Unlock", "rw.Unlock"), "00011", "0:0- | 0:0- | 0 OK:0w | 1:0w | 1 ErrOwner:0w | 0:0w | 0:0w | 0 OK:0- | OK"},
		// Which thread was the reader is not asked.
		{threads("rw.RLock", "rw.RUnlock rw.RUnlock"), "00111", "0:0- | 0 OK:1- | 1:1- | 1 OK:0- | 1 ErrOwner:0- | OK"},
		{threads("rw.RLock rw.Lock"), "", "0:0- | 0 OK:1- | 0:1- | ErrStuck"},
		{threads("rw.Lock rw.RLock"), "", "0:0- | 0:0- | 0 OK:0w | ErrStuck"},
		{threads("rw.Lock rw.Lock"), "", "0:0- | 0:0- | 0 OK:0w | 0:0w | ErrStuck"},
		// A reader has it, a writer waits, another reader asks.
		{threads("rw.RLock step rw.RUnlock", "rw.Lock rw.Unlock", "rw.RLock rw.RUnlock"), "00112", "0:0- | 0 OK:1- | 1:1- | 1:1- | 2:1- | 0:1- | 0 OK:0- | 1 OK:0w | 1 OK:0- | 2 OK:1- | 2 OK:0- | OK"},
	})
}

// P9.3, P9.7: who may have it next, where readers and writers have it and wait for it.
func TestRWReady(t *testing.T) {
	read, write := "rw.RLock step rw.RUnlock", "rw.Lock step rw.Unlock"
	for _, c := range []struct {
		programs           []string
		order, ready, what string
	}{
		{threads(read, read, read), "001", "012", "a reader does not keep readers out"},
		{threads(read, read, read), "00112", "012", "nor do two"},
		{threads(write, read), "0001", "0", "a writer that has it keeps readers out"},
		{threads(write, read), "00010", "0", "up to the act in which it lets go"},
		{threads(write, read), "000100", "1", "and no longer"},
		{threads(write, write), "00011", "0", "a writer that has it keeps writers out"},
		{threads(write, write), "0001100", "1", "up to where it lets go"},
		{threads(read, write), "0011", "0", "a reader keeps writers out"},
		{threads(read, write), "001100", "1", "up to where it lets go"},
		{threads(read, read, write), "00112200", "1", "a writer waits for all readers"},
		{threads(read, read, write), "0011220011", "2", "and for no longer"},
		{threads(read, write, read), "00112", "0", "a writer that waits keeps further readers out"},
		{threads(read, write, read), "0012", "012", "one that has not asked yet does not"},
		{threads(read, write, read), "00211", "0", "a reader that asked ahead of it is kept out too"},
		{threads(write, read), "001", "0", "a writer that may have it keeps readers out"},
		{threads(write, write, read), "00112", "01", "of two writers that wait each may have it next"},
		{threads(write, write, read), "001121", "1", "the other one keeps out who waits"},
		{threads(write, write, read), "00112111", "0", "and then has it: no reader while it waits"},
		{threads(write, write, read), "00112111000", "2", "then the reader"},
	} {
		is(t, "P9.3: "+c.what+": who is ready behind "+c.order, readyBehind(t, c.programs, c.order), c.ready)
	}
}

// P9.3: without a baton each of the calls where it may be had and where not.
func TestRWAlone(t *testing.T) {
	w := made()
	look := func() string { return readers(w) }
	is(t, "P9.3: alone", w.alone("rw.RLock ^rw.RLock", look), "OK OK :2-")
	is(t, "P9.3: alone", w.alone("rw.Lock ^rw.Lock rw.Unlock", look), "ErrAlone ErrAlone ErrOwner :2-")
	is(t, "P9.3: refused, no writer waits", w.alone("rw.RLock", look), "OK :3-")
	is(t, "P9.3: alone", w.alone("rw.RUnlock rw.RUnlock ^rw.RUnlock rw.RUnlock", look), "OK OK OK ErrOwner :0-")
	is(t, "P9.3: alone", w.alone("rw.Lock", look), "OK :0w")
	is(t, "P9.3: alone", w.alone("rw.RLock ^rw.RLock rw.Lock ^rw.Lock rw.RUnlock", look), "ErrAlone ErrAlone ErrAlone ErrAlone ErrOwner :0w")
	is(t, "P9.3: alone", w.alone("rw.Unlock rw.Unlock", look), "OK ErrOwner :0-")
	is(t, "P9.3: refused, no writer waits", w.alone("rw.RLock rw.RUnlock ^rw.Lock ^rw.Unlock", look), "OK OK OK OK :0-")
	scenes(t, "P9.3", readers, []scene{
		{threads("rw.RLock rw.RUnlock", "~rw.RLock ~rw.Lock ~rw.RUnlock"), "001", "0:0- | 0 OK:1- | 1 OK ErrAlone OK:1- | 0 OK:0- | OK"},
		{threads("rw.Lock rw.Unlock", "~rw.RLock ~rw.Lock ~rw.Unlock"), "0001", "0:0- | 0:0- | 0 OK:0w | 1 ErrAlone ErrAlone ErrOwner:0w | 0 OK:0- | OK"},
		// A writer waits: that keeps a reader out, but not another writer.
		{threads("rw.Lock rw.Unlock", "~rw.RLock ~rw.Lock rw.Unlock ~rw.Unlock"), "0011", "0:0- | 0:0- | 1 ErrAlone OK:0w | 1 ErrOwner OK:0- | 0 OK:0w | 0 OK:0- | OK"},
	})
	// A writer whose run broke off waits still.
	is(t, "P9.3: it reads and asks to write", w.film(play{programs: threads("rw.RLock rw.Lock")}, look), "0:0- | 0 OK:1- | 0:1- | ErrStuck")
	is(t, "P9.3: and behind it", w.alone("rw.RLock rw.Lock rw.RUnlock rw.RLock rw.Lock", look), "ErrAlone ErrAlone OK ErrAlone OK :0w")
}
