package lock_test

import (
	"strconv"
	"testing"
)

func within(w *world) string { return strconv.Itoa(w.g.Count()) }

// P9.4: what each call answers, and how many are within behind each act.
func TestGate(t *testing.T) {
	pass := "g.Enter step g.Leave"
	scenes(t, "P9.4", within, []scene{
		// Enter and Leave are no places where others act.
		{threads("g.Enter g.Enter g.Leave g.Enter g.Leave g.Leave g.Leave g.Leave"), "", "0 OK OK OK OK OK OK ErrOwner ErrOwner:0 | OK"},
		{threads("g.Enter g.Enter step g.Leave"), "", "0 OK OK:2 | 0 OK:1 | OK"},
		{threads("g.Leave step g.Enter"), "", "0 ErrOwner:0 | 0 OK:1 | OK"},
		{threads("g.Wait g.Enter"), "", "0:0 | 0 OK OK:1 | OK"},
		{threads("g.Enter g.Wait"), "", "0 OK:1 | ErrStuck"},
		{threads(pass, "g.Wait"), "01", "0 OK:1 | 1:1 | 0 OK:0 | 1 OK:0 | OK"},
		{threads(pass, pass, "g.Wait"), "01201", "0 OK:1 | 1 OK:2 | 2:2 | 0 OK:1 | 1 OK:0 | 2 OK:0 | OK"},
		// Who goes out need not be who went in.
		{threads("g.Enter", "g.Leave g.Leave"), "01", "0 OK:1 | 1 OK ErrOwner:0 | OK"},
	})
	for order, want := range map[string]string{"0": "01", "01": "0", "010": "1", "1": "01", "10": "0", "100": "1"} {
		is(t, "P9.4: who is ready behind "+order, readyBehind(t, threads(pass, "g.Wait"), order), want)
	}
}

// P9.4: Wait without a baton, where somebody is within and where nobody is.
func TestGateAlone(t *testing.T) {
	w := made()
	look := func() string { return within(w) }
	is(t, "P9.4: alone", w.alone("g.Wait ^g.Wait g.Leave", look), "OK OK ErrOwner :0")
	is(t, "P9.4: alone", w.alone("g.Enter g.Wait ^g.Wait g.Enter g.Wait", look), "OK ErrAlone ErrAlone OK ErrAlone :2")
	is(t, "P9.4: alone", w.alone("g.Leave g.Wait g.Leave g.Wait", look), "OK ErrAlone OK OK :0")
	scenes(t, "P9.4", within, []scene{
		{threads("g.Enter step g.Leave", "~g.Wait step ~g.Wait"), "0101", "0 OK:1 | 1 ErrAlone:1 | 0 OK:0 | 1 OK:0 | OK"},
	})
}
