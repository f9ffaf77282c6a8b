package sched

import (
	"slices"
	"sync"

	"gleaner/api"
)

// unwound is what a body gives up by that gets the baton no more.
const unwound = "sched: the run is over, the baton comes no more"

// run is what goes on between the call of Watch and its answer.
type run struct {
	threads []*thread
	picks   []byte
	used    int
	acts    []uint8
	back    chan struct{} // the baton comes back here, from whichever thread had it
	all     sync.WaitGroup
}

// thread is a body and how far it is. Its goroutine writes to it while it has the baton, the run's while nobody has.
type thread struct {
	run    *run // nil: it has answered
	number int
	turn   chan struct{} // the baton comes here; closed: it never comes any more
	waits  func() bool   // what the next act waits for; nil: nothing
	end    api.ThreadEnd // 0: it is not over
	gone   bool          // its goroutine has nothing left to do
	lost   bool          // it was told that the baton comes no more
	why    any           // what waits gave up by, if it did
}

// begin makes a run of which no act is done. The picks are copied: a body may write to the list that was handed in.
func begin(bodies []func(*Baton), picks []byte) *run {
	r := &run{picks: slices.Clone(picks), back: make(chan struct{})}
	r.all.Add(len(bodies))
	for i, body := range bodies {
		t := &thread{run: r, number: i, turn: make(chan struct{})}
		r.threads = append(r.threads, t)
		go t.live(body)
	}
	return r
}

// live is all that a thread's goroutine does: the body, from where the baton comes for the first time.
func (t *thread) live(body func(*Baton)) {
	defer t.run.all.Done()
	end := api.ThreadPanic
	defer func() {
		recover()
		t.end, t.gone = end, true
		t.run.back <- struct{}{}
	}()
	if _, comes := <-t.turn; !comes {
		return
	}
	body(&Baton{thread: t})
	end = api.ThreadDone
}

// pause hands the baton back, and comes back with it.
func (t *thread) pause(ready func() bool) {
	// Whoever unwinds this body waits for its end, and takes no baton back ahead of it.
	if t.lost {
		panic(unwound)
	}
	t.waits = ready
	t.run.back <- struct{}{}
	if _, comes := <-t.turn; !comes {
		t.lost = true
		t.giveUp()
	}
}

// giveUp panics: by what ready gave up by, if it did, as if the body had.
func (t *thread) giveUp() {
	if t.why != nil {
		panic(t.why)
	}
	panic(unwound)
}

// ready tells whether the thread may act now. If what it waits for panics, it is over.
func (t *thread) ready() (yes bool) {
	if t.end != 0 {
		return false
	}
	asked := false
	defer func() {
		if !asked {
			t.why = recover()
			t.end = api.ThreadPanic
		}
	}()
	yes = t.waits == nil || t.waits()
	asked = true
	return yes
}

// play lets the threads act, till none is ready or there are most acts.
func (r *run) play(most int, behind func()) {
	for len(r.acts) < most {
		ready := r.ready()
		if len(ready) == 0 {
			return
		}
		r.act(r.next(ready))
		if behind != nil {
			behind()
		}
	}
}

// ready is the numbers of the threads that may act now, rising.
func (r *run) ready() []uint8 {
	var out []uint8
	for i, t := range r.threads {
		if t.ready() {
			out = append(out, uint8(i))
		}
	}
	return out
}

// next is which of the ready threads acts.
func (r *run) next(ready []uint8) uint8 {
	if r.used < len(r.picks) {
		p := r.picks[r.used]
		r.used++
		return ready[int(p)%len(ready)]
	}
	if len(r.acts) > 0 {
		last := r.acts[len(r.acts)-1]
		for _, n := range ready {
			if n > last {
				return n
			}
		}
	}
	return ready[0]
}

// act lets a thread do its next act. It counts when it is done: in it, Act tells how many were ahead.
func (r *run) act(n uint8) {
	r.threads[n].turn <- struct{}{}
	<-r.back
	r.acts = append(r.acts, n)
}

// report tells the run as it stands behind its last act (P8.3).
func (r *run) report(most int) (api.Report, api.Errno) {
	left, no := api.ThreadWait, api.ErrStuck
	if len(r.acts) == most {
		left, no = api.ThreadCut, api.ErrOver
	}
	ends := make([]api.ThreadEnd, len(r.threads))
	for i, t := range r.threads {
		ends[i] = t.end
		if t.end == 0 {
			ends[i] = left
		}
	}
	switch {
	case slices.Contains(ends, left):
	case slices.Contains(ends, api.ThreadPanic):
		no = api.ErrPanic
	default:
		no = api.OK
	}
	return api.Report{Acts: r.acts, Ends: ends, Used: r.used}, no
}

// unwind ends the goroutines that are left, by number, each behind the one ahead of it (P8.4).
func (r *run) unwind() {
	for _, t := range r.threads {
		if !t.gone {
			close(t.turn)
			<-r.back
		}
	}
	r.all.Wait()
	// A baton that somebody keeps is to keep nothing of the run.
	for _, t := range r.threads {
		*t = thread{}
	}
}
