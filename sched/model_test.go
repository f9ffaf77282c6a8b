package sched_test

import (
	"math"
	"runtime"
	"slices"
	"testing"

	"gleaner/api"
	"gleaner/sched"
)

// then is how an act ends.
type then int

const (
	stepping then = iota
	waitingNil
	waiting  // till number on is at least least
	breaking // the same, but there ready panics
	leaving  // the body comes to its end
	failing  // it panics
	thens
)

// deed is what an act does: it adds to one of the shared numbers, and ends.
type deed struct {
	add, to   int
	then      then
	on, least int
}

// play is a run that is to be done by sched and by the model.
type play struct {
	programs [][]deed
	picks    []byte
	most     int
	watched  bool // behind each act one is added to the last of the numbers
}

const numbers = 3

// world is what bodies share, and what was seen of it.
type world struct {
	book
	x [numbers]int
}

func (w *world) seen(what string, thread, act int) {
	w.note(what, thread, "@", act, ":", w.x[0], ",", w.x[1], ",", w.x[2])
}

func (w *world) body(program []deed) func(*sched.Baton) {
	return func(b *sched.Baton) {
		defer func() { w.seen("end", b.Thread(), b.Act()) }()
		for _, d := range program {
			w.seen("act", b.Thread(), b.Act())
			w.x[d.to] += d.add
			switch d.then {
			case stepping:
				b.Step()
			case waitingNil:
				b.Wait(nil)
			case waiting, breaking:
				b.Wait(w.ready(b.Thread(), d))
			case leaving:
				return
			case failing:
				panic(d)
			}
		}
	}
}

func (w *world) ready(thread int, d deed) func() bool {
	return func() bool {
		w.note("ask", thread)
		if w.x[d.on] < d.least {
			return false
		}
		if d.then == breaking {
			panic(d)
		}
		return true
	}
}

func (w *world) behind() {
	w.x[numbers-1]++
	w.note("behind")
}

// real is the play done by sched.
func (p play) real() (string, string) {
	w := &world{}
	var list bodies
	for _, program := range p.programs {
		list = append(list, w.body(program))
	}
	if p.watched {
		r, no := sched.Watch(list, p.picks, p.most, w.behind)
		return told(r, no), w.String()
	}
	r, no := sched.Run(list, p.picks, p.most)
	return told(r, no), w.String()
}

// actor is a thread of the model.
type actor struct {
	program []deed
	at      int // deeds done
	begun   bool
	end     api.ThreadEnd
	broken  bool // its ready panicked: it is over, and yet to be unwound
}

// stands is the deed at whose end the thread stands.
func (a *actor) stands() (deed, bool) {
	if a.at == 0 {
		return deed{}, false
	}
	return a.program[a.at-1], true
}

func (a *actor) ready(w *world, n int) bool {
	if a.end != 0 {
		return false
	}
	d, some := a.stands()
	if !some || d.then != waiting && d.then != breaking {
		return true
	}
	w.note("ask", n)
	if w.x[d.on] < d.least {
		return false
	}
	if d.then == breaking {
		a.end, a.broken = api.ThreadPanic, true
		return false
	}
	return true
}

func (a *actor) act(w *world, n, act int) {
	a.begun = true
	a.end = api.ThreadDone
	if a.at < len(a.program) {
		d := a.program[a.at]
		a.at++
		w.seen("act", n, act)
		w.x[d.to] += d.add
		switch d.then {
		case failing:
			a.end = api.ThreadPanic
		case leaving:
		default:
			a.end = 0
		}
	}
	if a.end != 0 {
		w.seen("end", n, act)
	}
}

// modelled is the play done by the chapter's words, without threads.
func (p play) modelled() (string, string) {
	w := &world{}
	var all []*actor
	for _, program := range p.programs {
		all = append(all, &actor{program: program})
	}
	r := api.Report{}
	last := -1
	for len(r.Acts) < p.most {
		var ready []int
		for n, a := range all {
			if a.ready(w, n) {
				ready = append(ready, n)
			}
		}
		if len(ready) == 0 {
			break
		}
		if r.Used < len(p.picks) {
			last = ready[int(p.picks[r.Used])%len(ready)]
			r.Used++
		} else if i := slices.IndexFunc(ready, func(n int) bool { return n > last }); i >= 0 {
			last = ready[i]
		} else {
			last = ready[0]
		}
		all[last].act(w, last, len(r.Acts))
		r.Acts = append(r.Acts, uint8(last))
		if p.watched {
			w.behind()
		}
	}
	no := p.ends(all, &r)
	for n, a := range all {
		if a.begun && (a.end == 0 || a.broken) {
			w.seen("end", n, len(r.Acts))
		}
	}
	return told(r, no), w.String()
}

// ends is P8.3.
func (p play) ends(all []*actor, r *api.Report) api.Errno {
	left, failed := false, false
	for _, a := range all {
		e := a.end
		if e == 0 && len(r.Acts) == p.most {
			e = api.ThreadCut
		} else if e == 0 {
			e = api.ThreadWait
		}
		left = left || a.end == 0
		failed = failed || a.end == api.ThreadPanic
		r.Ends = append(r.Ends, e)
	}
	switch {
	case left && len(r.Acts) == p.most:
		return api.ErrOver
	case left:
		return api.ErrStuck
	case failed:
		return api.ErrPanic
	}
	return api.OK
}

func (x *dice) deed() deed {
	d := deed{add: x.throw(3), to: x.throw(numbers), then: stepping}
	if x.throw(2) == 0 {
		d.then = then(x.throw(int(thens)))
	}
	// What is waited for is mostly come to, at times at once, at times never.
	d.on, d.least = x.throw(numbers), x.throw(8)
	if x.throw(12) == 0 {
		d.least = 1000
	}
	return d
}

func (x *dice) play() play {
	p := play{most: math.MaxInt, watched: x.throw(2) == 0}
	for range 1 + x.throw(api.MaxThreads) {
		program := make([]deed, x.throw(7))
		for i := range program {
			program[i] = x.deed()
		}
		p.programs = append(p.programs, program)
	}
	if x.throw(3) > 0 {
		p.picks = x.picks(x.throw(40))
	}
	if x.throw(2) == 0 {
		p.most = x.throw(30)
	}
	return p
}

// P8.1 to P8.6: whatever the bodies and picks are, a run is what the chapter's words say, in all that bodies, readies and behind see.
func TestModel(t *testing.T) {
	before := runtime.NumGoroutine()
	count := map[string]int{}
	x := dice(8)
	for i := range 6000 {
		p := x.play()
		line, seen := p.real()
		wantLine, wantSeen := p.modelled()
		if line != wantLine || seen != wantSeen {
			t.Fatalf("P8.1 to P8.5: play %d, %+v:\n got %s: %s\nwant %s: %s", i, p, line, seen, wantLine, wantSeen)
		}
		again, seenAgain := p.real()
		if again != line || seenAgain != seen {
			t.Fatalf("P8.6: play %d, %+v, once more:\n got %s: %s\nwant %s: %s", i, p, again, seenAgain, line, seen)
		}
		count[line[len(line)-3:]]++
	}
	if !ended(before) {
		t.Errorf("P8.4: %d goroutines, there were %d", runtime.NumGoroutine(), before)
	}
	// The plays must be of all kinds, else they show little.
	for _, end := range []string{" OK", "ver", "uck", "nic"} {
		if count[end] < 300 {
			t.Errorf("only %d plays end with%s", count[end], end)
		}
	}
}
