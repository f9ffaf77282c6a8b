package lock_test

import (
	"strconv"
	"strings"
	"testing"
)

func waiting(w *world) string { return strconv.Itoa(w.f.Waiting()) }

// P9.2: what each call answers, and how many wait behind each act.
func TestFair(t *testing.T) {
	two := threads("f.Lock f.Unlock", "f.Lock f.Unlock")
	scenes(t, "P9.2", waiting, []scene{
		{threads("f.Lock f.Unlock"), "", "0:0 | 0:1 | 0 OK:0 | 0 OK:0 | OK"},
		{threads("f.Unlock"), "", "0:0 | 0 ErrOwner:0 | OK"},
		{threads("f.Lock f.Unlock f.Unlock f.Lock"), "", "0:0 | 0:1 | 0 OK:0 | 0 OK:0 | 0 ErrOwner:0 | 0:1 | 0 OK:0 | OK"},
		{threads("f.Lock f.Lock"), "", "0:0 | 0:1 | 0 OK:0 | 0:1 | ErrStuck"},
		{two, "0000", "0:0 | 0:1 | 0 OK:0 | 0 OK:0 | 1:0 | 1:1 | 1 OK:0 | 1 OK:0 | OK"},
		{two, "0011", "0:0 | 0:1 | 1:1 | 1:2 | 0 OK:1 | 0 OK:1 | 1 OK:0 | 1 OK:0 | OK"},
		// The step ahead of asking is nobody's place in the row.
		{two, "011", "0:0 | 1:0 | 1:1 | 0:2 | 1 OK:1 | 1 OK:1 | 0 OK:0 | 0 OK:0 | OK"},
		{threads("f.Lock step step f.Unlock", "f.Unlock"), "00011", "0:0 | 0:1 | 0 OK:0 | 1:0 | 1 ErrOwner:0 | 0:0 | 0:0 | 0 OK:0 | OK"},
		// Who waits does not have it.
		{threads("f.Lock f.Unlock", "f.Unlock"), "0011", "0:0 | 0:1 | 1:1 | 1 ErrOwner:1 | 0 OK:0 | 0 OK:0 | OK"},
	})
}

// P9.2, P9.7: in whichever order three have asked, they have it in that order, and nobody else is ready meanwhile.
func TestFairOrders(t *testing.T) {
	three := threads("f.Lock step f.Unlock", "f.Lock step f.Unlock", "f.Lock step f.Unlock")
	for _, o := range []string{"012", "021", "102", "120", "201", "210"} {
		order := ""
		for _, who := range strings.Split(o, "") {
			order += who + who
		}
		for _, who := range strings.Split(o, "") {
			// It has it, its own step, the step of Unlock.
			for range 3 {
				is(t, "P9.2: who is ready behind "+order, readyBehind(t, three, order), who)
				order += who
			}
		}
		is(t, "P9.2: who is ready behind "+order, readyBehind(t, three, order), "")
	}
}

// P9.2: others stand between the one that lets go and the one that asks: it comes behind them.
func TestFairBetween(t *testing.T) {
	again := threads("f.Lock f.Unlock f.Lock f.Unlock", "f.Lock f.Unlock", "step f.Lock f.Unlock")
	scenes(t, "P9.2", waiting, []scene{
		// 0 has it, 1 asks; 0 lets go and stands in the step ahead of asking; 2 asks, then 0.
		{again, "000" + "11" + "0" + "222" + "0", "0:0 | 0:1 | 0 OK:0 | 1:0 | 1:1 | 0 OK:1 | 2:1 | 2:1 | 2:2 | 0:3 | 1 OK:2 | 1 OK:2 | 2 OK:1 | 2 OK:1 | 0 OK:0 | 0 OK:0 | OK"},
	})
	// Nobody has it, but 1 asked ahead: 0 is not ready.
	is(t, "P9.2: who is ready", readyBehind(t, again, "000"+"11"+"0"+"0"), "12")
}

// P9.2: without a baton: where somebody has it, where somebody waits, and where neither is so.
func TestFairAlone(t *testing.T) {
	w := made()
	look := func() string { return waiting(w) }
	is(t, "P9.2: alone", w.alone("f.Lock", look), "OK :0")
	is(t, "P9.2: alone", w.alone("f.Lock ^f.Lock", look), "ErrAlone ErrAlone :0")
	is(t, "P9.2: alone", w.alone("f.Unlock f.Unlock", look), "OK ErrOwner :0")
	is(t, "P9.2: alone", w.alone("f.Lock ^f.Unlock ^f.Lock ^f.Lock f.Unlock", look), "OK OK OK ErrAlone OK :0")
	is(t, "P9.2: refused, it has not asked", w.film(play{programs: threads("f.Lock f.Unlock")}, look), "0:0 | 0:1 | 0 OK:0 | 0 OK:0 | OK")
	scenes(t, "P9.2", waiting, []scene{
		{threads("f.Lock f.Unlock", "~f.Lock ~f.Unlock"), "0001", "0:0 | 0:1 | 0 OK:0 | 1 ErrAlone ErrOwner:0 | 0 OK:0 | OK"},
		{threads("f.Lock f.Unlock", "~f.Lock ^f.Lock"), "001", "0:0 | 0:1 | 1 ErrAlone ErrAlone:1 | 0 OK:0 | 0 OK:0 | OK"},
		{threads("f.Lock f.Unlock", "~f.Lock f.Unlock ~f.Unlock"), "0101", "0:0 | 1 OK:0 | 0:1 | 1 ErrOwner OK:1 | 0 OK:0 | 0 OK:0 | OK"},
	})
	// One whose run broke off has asked, and never had it.
	is(t, "P9.2: two locks in a row", w.film(play{programs: threads("f.Lock f.Lock")}, look), "0:0 | 0:1 | 0 OK:0 | 0:1 | ErrStuck")
	is(t, "P9.2: and behind it", w.alone("f.Lock f.Unlock", look), "ErrAlone ErrOwner :1")
}
