package cycle_test

import (
	"bytes"
	"slices"
	"strconv"
	"testing"

	"gleaner/api"
	"gleaner/object"
)

// shop is a store that several use beside the collector, by DOC.md's table: each operation is done an act at a time.
type shop struct {
	*estate
	tasks   []task
	met     map[string]int
	waiting int // acts at which the collector had to wait
}

// task does an operation's next act; true: it was the last one.
type task func() bool

// pins are what a session pins; none, if it is not open.
func (s *shop) pins(n int) []api.Key {
	for _, x := range s.p.Sessions() {
		if x.Number == n {
			return x.Pins
		}
	}
	return nil
}

// pick is one of some keys.
func (s *shop) pick(list []api.Key) (api.Key, bool) {
	if len(list) == 0 {
		return api.Key{}, false
	}
	return list[s.some.throw(len(list))], true
}

// holding is an object whose kids a session pins.
func (s *shop) holding(n int) api.Object {
	data := []byte{byte(s.some.throw(60)), byte(s.some.throw(2))}
	o := api.Object{Kind: api.Blob, Data: bytes.Repeat(data, 1+int(data[0])%20)}
	if k, ok := s.pick(s.pins(n)); ok && s.some.throw(2) == 0 {
		o = api.Object{Kind: api.List}
		for range 1 + s.some.throw(3) {
			o.Parts = append(o.Parts, api.Part{Key: k})
			k, _ = s.pick(s.pins(n))
		}
	}
	k := keyOf(o)
	if _, ok := s.things[k]; !ok {
		s.things[k] = o
		s.keys = append(s.keys, k)
	}
	return o
}

// hit touches a key and lets a session pin it.
func (s *shop) hit(n int, k api.Key) {
	s.c.Touch(k)
	s.p.Pin(n, k)
	s.p.Leave(n)
}

// putting is a put, from its second act on.
func (s *shop) putting(n int, o api.Object) task {
	k, r := keyOf(o), record(o)
	var at api.Place
	step, laid := 0, 0
	is(s.t, "busier", s.p.Enter(n), api.OK)
	return func() bool {
		step++
		_, there := s.x.Get(k)
		var no api.Errno
		switch {
		case step == 1 && there:
			s.hit(n, k)
			return true
		case step == 2:
			at, no = s.a.Reserve(len(r))
			if no != api.OK {
				s.p.Leave(n)
				return true
			}
		case step > 2 && laid < len(r):
			next := min(len(r), laid+30)
			is(s.t, "written", s.a.Write(api.Place{Seg: at.Seg, Off: at.Off + laid}, r[laid:next]), api.OK)
			laid = next
		case step > 2:
			is(s.t, "settled", s.a.Settle(at, len(r), !there), api.OK)
			if !there {
				s.x.Put(k, api.Entry{Place: at, Size: len(r), Mark: s.c.Epoch()})
				s.c.Born(k)
				s.p.Pin(n, k)
				s.p.Leave(n)
			} else {
				s.hit(n, k)
				s.met["put twice"]++
			}
			return true
		}
		return false
	}
}

// getting is a get, from its second act on.
func (s *shop) getting(n int, k api.Key) task {
	at, ok := s.x.Get(k)
	is(s.t, "P0.3: what is pinned has an entry", ok, true)
	is(s.t, "held", s.a.Hold(at.Place.Seg), api.OK)
	is(s.t, "busier", s.p.Enter(n), api.OK)
	return func() bool {
		b, no := s.a.Read(at.Place, at.Size)
		if no != api.OK || !bytes.Equal(b, record(s.things[k])) {
			s.t.Errorf("P0.3: %s: what a get reads is not what was put", s.label)
		}
		is(s.t, "let", s.a.Let(at.Place.Seg), api.OK)
		for _, kid := range object.Kids(s.things[k]) {
			s.c.Touch(kid)
			s.p.Pin(n, kid)
		}
		s.p.Leave(n)
		return true
	}
}

// call is an operation's call; what is left of it goes to the tasks.
func (s *shop) call() string {
	n := s.some.throw(4)
	name := "r" + strconv.Itoa(s.some.throw(4))
	k, pinned := s.pick(s.pins(n))
	open := slices.ContainsFunc(s.p.Sessions(), func(x api.Session) bool { return x.Number == n })
	switch what := s.some.throw(16); {
	case !open:
		s.p.Open(n)
		return "open"
	case what < 2:
		s.p.Close(n) // it stays, if it is busy
		return "close"
	case what < 7 && len(s.tasks) < 5:
		s.tasks = append(s.tasks, s.putting(n, s.holding(n)))
		return "put"
	case what < 9 && pinned && len(s.tasks) < 5:
		s.tasks = append(s.tasks, s.getting(n, k))
		return "get"
	case what < 11:
		for _, r := range s.r.All() {
			if r.Name == name {
				s.p.Pin(n, r.Key)
				s.c.Touch(r.Key)
				return "look"
			}
		}
	case what < 13 && pinned:
		s.c.Touch(k)
		s.r.Set(name, k)
		return "commit"
	case what < 14:
		s.r.Drop(name)
		return "drop"
	case what < 16:
		s.c.Help()
		return "help"
	}
	return "nothing"
}

// act is one of anybody's.
func (s *shop) act() string {
	switch n := s.some.throw(10); {
	case s.c.Phase() == api.Rest && n < 2:
		is(s.t, "P19.4: Begin", s.c.Begin(), api.OK)
		return "begin"
	case s.c.Phase() == api.Rest && n < 5:
	case n < 5 && !s.c.Ready():
		s.waiting++
		done, no := s.c.Act()
		is(s.t, "P19.6: it waits", strconv.FormatBool(done)+code(no), "falseErrHeld")
		return "wait"
	case n < 5:
		_, no := s.c.Act()
		is(s.t, "P19.6: Act", no, api.OK)
		return "collect in " + phase(s.c.Phase())
	case n < 8 && len(s.tasks) > 0:
		i := s.some.throw(len(s.tasks))
		if s.tasks[i]() {
			s.tasks = slices.Delete(s.tasks, i, i+1)
		}
		return "go on"
	}
	return s.call() + " in " + phase(s.c.Phase())
}

// lost holds the store against P0.3.
func (s *shop) lost() {
	s.t.Helper()
	list, seen := s.heads(), map[api.Key]bool{}
	for len(list) > 0 {
		k := list[0]
		list = list[1:]
		if seen[k] {
			continue
		}
		seen[k] = true
		list = append(list, object.Kids(s.things[k])...)
		at, ok := s.x.Get(k)
		b, no := s.a.Read(at.Place, at.Size)
		if !ok || no != api.OK || !bytes.Equal(b, record(s.things[k])) {
			s.t.Errorf("P0.3: %s: %s is lost", s.label, word(k))
		}
	}
}

// colours holds it against P0.4.
func (s *shop) colours() {
	s.t.Helper()
	grey := map[api.Key]bool{}
	for _, g := range s.c.Grey() {
		grey[g.Key] = true
	}
	marked := func(k api.Key) bool {
		at, ok := s.x.Get(k)
		return ok && at.Mark == s.c.Epoch()
	}
	for k := range s.x.All() {
		if phase := s.c.Phase(); !marked(k) {
			is(s.t, "P0.4: "+s.label+": not marked", phase == api.Rest || phase == api.Move, false)
			continue
		}
		for _, kid := range object.Kids(s.things[k]) {
			is(s.t, "P0.4: "+s.label+": the kid of a black one is marked", grey[k] || marked(kid), true)
		}
	}
}

// P0.3, P0.4, as the collector has to keep them: acts of many operations and of collections, in drawn orders.
func TestBeside(t *testing.T) {
	met, waiting, epochs := map[string]int{}, 0, 0
	for n := range 60 {
		some := dice(n)
		e := newEstate(t, n, api.Config{Segs: 4 + some.throw(6), Size: 200 + some.throw(300)})
		s := &shop{estate: e, met: met}
		for i := range 900 {
			s.label = "shop " + strconv.Itoa(n) + ", act " + strconv.Itoa(i)
			met[s.act()]++
			s.lost()
			s.colours()
			if t.Failed() {
				return
			}
		}
		waiting += s.waiting
		epochs += int(s.c.Epoch())
	}
	for _, p := range []string{"Rest", "Scan", "Trace", "Sweep", "Move"} {
		for _, what := range []string{"open", "close", "put", "get", "look", "commit", "drop", "help", "collect"} {
			if met[what+" in "+p] < 20 {
				t.Errorf("drawn: %s in %s: %d times", what, p, met[what+" in "+p])
			}
		}
	}
	if waiting < 20 || epochs < 300 || met["put twice"] < 10 {
		t.Errorf("drawn: it waited %d times, there were %d collections, %d puts of one key at once", waiting, epochs, met["put twice"])
	}
}
