package lock_test

import (
	"strings"
	"testing"

	"gleaner/lock"
)

// fresh is what a look at new ones tells.
const fresh = "-1,-1,0,0,0,0,-"

// How many steps and waits each call makes: one act, and one more behind each; and nothing is done ahead of the last one, but asking.
func TestPauses(t *testing.T) {
	for _, c := range []struct{ ahead, call, want string }{
		{"", "m.Lock", "0:" + fresh + " | 0 OK:0,-1,0,0,0,0,- | OK"},
		{"m.Lock", "m.Lock", "0:-2,-1,0,0,0,0,- | ErrStuck"},
		{"", "m.TryLock", "0:" + fresh + " | 0 trueOK:0,-1,0,0,0,0,- | OK"},
		{"m.Lock", "m.TryLock", "0:-2,-1,0,0,0,0,- | 0 falseOK:-2,-1,0,0,0,0,- | OK"},
		{"", "m.Unlock", "0:" + fresh + " | 0 ErrOwner:" + fresh + " | OK"},
		{"m.Lock", "m.Unlock", "0:-2,-1,0,0,0,0,- | 0 ErrOwner:-2,-1,0,0,0,0,- | OK"},
		{"", "f.Lock", "0:" + fresh + " | 0:-1,-1,1,0,0,0,- | 0 OK:" + fresh + " | OK"},
		{"f.Lock", "f.Lock", "0:" + fresh + " | 0:-1,-1,1,0,0,0,- | ErrStuck"},
		{"", "f.Unlock", "0:" + fresh + " | 0 ErrOwner:" + fresh + " | OK"},
		{"", "rw.RLock", "0:" + fresh + " | 0 OK:-1,-1,0,1,0,0,- | OK"},
		{"rw.RLock", "rw.RLock", "0:-1,-1,0,1,0,0,- | 0 OK:-1,-1,0,2,0,0,- | OK"},
		{"rw.Lock", "rw.RLock", "0:-1,-1,0,0,0,0,w | ErrStuck"},
		{"", "rw.RUnlock", "0:" + fresh + " | 0 ErrOwner:" + fresh + " | OK"},
		{"rw.RLock", "rw.RUnlock", "0:-1,-1,0,1,0,0,- | 0 OK:" + fresh + " | OK"},
		{"", "rw.Lock", "0:" + fresh + " | 0:" + fresh + " | 0 OK:-1,-1,0,0,0,0,w | OK"},
		{"rw.RLock", "rw.Lock", "0:-1,-1,0,1,0,0,- | 0:-1,-1,0,1,0,0,- | ErrStuck"},
		{"rw.Lock", "rw.Lock", "0:-1,-1,0,0,0,0,w | 0:-1,-1,0,0,0,0,w | ErrStuck"},
		{"rw.Lock", "rw.Unlock", "0:-1,-1,0,0,0,0,w | 0 ErrOwner:-1,-1,0,0,0,0,w | OK"},
		{"", "rw.Unlock", "0:" + fresh + " | 0 ErrOwner:" + fresh + " | OK"},
		{"", "g.Enter", "0 OK:-1,-1,0,0,1,0,- | OK"},
		{"", "g.Leave", "0 ErrOwner:" + fresh + " | OK"},
		{"g.Enter", "g.Leave", "0 OK:" + fresh + " | OK"},
		{"", "g.Wait", "0:" + fresh + " | 0 OK:" + fresh + " | OK"},
		{"g.Enter", "g.Wait", "0:-1,-1,0,0,1,0,- | ErrStuck"},
		{"", "c.Load", "0:" + fresh + " | 0 0:-1,-1,0,0,0,1,- | OK"},
		{"", "c.Store7", "0:" + fresh + " | 0 -:-1,-1,0,0,0,1,- | OK"},
		{"", "c.Swap7", "0:" + fresh + " | 0 0:-1,-1,0,0,0,1,- | OK"},
		{"", "c.Cas07", "0:" + fresh + " | 0 true:-1,-1,0,0,0,1,- | OK"},
		{"", "c.Cas17", "0:" + fresh + " | 0 false:-1,-1,0,0,0,1,- | OK"},
	} {
		w := made()
		w.alone(c.ahead, w.look)
		is(t, "steps and waits of "+c.call+" behind "+c.ahead, w.film(play{programs: threads(c.call)}, w.look), c.want)
	}
}

// A call that never comes back from its step or its wait has done nothing but ask, and nothing of its body follows.
func TestBrokenOff(t *testing.T) {
	for _, call := range strings.Fields(calls) {
		for most := range len(pauses(call)) {
			w := made()
			film := w.film(play{threads(call + " g.Enter"), nil, most + 1}, w.look)
			want, seen := "0:"+fresh+" | ErrOver", fresh
			if most == 1 {
				want = "0:" + fresh + " | 0:" + fresh + " | ErrOver"
			}
			if most == 1 && call == "f.Lock" {
				seen = "-1,-1,1,0,0,0,-"
				want = "0:" + fresh + " | 0:" + seen + " | ErrOver"
			}
			is(t, call+" that is broken off", film, want)
			is(t, "what is left behind "+call, w.look(), seen)
			is(t, "the cell behind "+call, w.alone("c.Load", w.look)[:2], "0 ")
		}
	}
}

// A nil one, and one that no New made, of each type: ErrNil, or zero answers, with no step and no wait.
func TestNil(t *testing.T) {
	const answers = "ErrNil falseErrNil ErrNil ErrNil ErrNil ErrNil ErrNil ErrNil ErrNil ErrNil ErrNil ErrNil 0 - 0 false"
	const again = calls + " " + calls
	for what, w := range map[string]*world{"nil": {}, "unmade": unmade()} {
		is(t, "looked at, "+what, w.look(), fresh)
		is(t, "in a run, "+what, w.film(play{programs: threads(again)}, w.look), "0 "+answers+" "+answers+":"+fresh+" | OK")
		is(t, "alone, "+what, w.alone(again, w.look), answers+" "+answers+" :"+fresh)
		is(t, "with a baton that no run made, "+what, w.alone("^"+strings.ReplaceAll(calls, " ", " ^"), w.look), answers+" :"+fresh)
	}
	var c *lock.Cell[string]
	var d lock.Cell[[2]float64]
	c.Store(nil, "a")
	d.Store(nil, [2]float64{1})
	if c.Load(nil) != "" || c.Swap(nil, "a") != "" || c.Cas(nil, "", "a") || d.Load(nil) != [2]float64{} || d.Swap(nil, [2]float64{1}) != [2]float64{} || d.Cas(nil, [2]float64{}, [2]float64{1}) || d.Acts() != 0 {
		t.Error("zero answers of cells that are not there")
	}
}

// ErrAlone has changed nothing: whatever could be done ahead of it can be done behind it.
func TestAloneNothing(t *testing.T) {
	for _, c := range []struct{ ahead, refused string }{
		{"m.Lock", "m.Lock"}, {"f.Lock", "f.Lock"}, {"rw.RLock", "rw.Lock"}, {"rw.Lock", "rw.Lock"}, {"rw.Lock", "rw.RLock"}, {"g.Enter", "g.Wait"},
	} {
		const behind = "m.TryLock m.Unlock m.Unlock f.Unlock f.Unlock f.Lock f.Unlock rw.RUnlock rw.Unlock rw.RLock rw.RUnlock rw.RUnlock rw.Lock rw.Unlock g.Leave g.Leave g.Wait c.Load"
		w, v := made(), made()
		w.alone(c.ahead, w.look)
		v.alone(c.ahead, v.look)
		look := w.look()
		is(t, c.refused+" behind "+c.ahead, w.alone(c.refused+" "+c.refused, w.look), "ErrAlone ErrAlone :"+look)
		is(t, "what follows "+c.refused+" behind "+c.ahead, w.alone(behind, w.look), v.alone(behind, v.look))
		is(t, "a run that follows", w.film(play{programs: threads(behind)}, w.look), v.film(play{programs: threads(behind)}, v.look))
	}
}

// Two of a type share nothing.
func TestApart(t *testing.T) {
	w, v := made(), made()
	w.alone("m.Lock f.Lock rw.RLock g.Enter c.Store7", w.look)
	is(t, "another world", v.look(), fresh)
	is(t, "another world", v.alone("m.Lock f.Lock rw.Lock g.Wait c.Load", v.look), "OK OK OK OK 0 :-2,-1,0,0,0,1,w")
	is(t, "another Mutex", w.alone("n.Lock n.Unlock", w.look), "OK OK :-2,-1,0,1,1,1,-")
}
