package lock_test

import (
	"maps"
	"math"
	"os"
	"slices"
	"strconv"
	"strings"
	"testing"
	"time"

	"gleaner/api"
	"gleaner/lock"
	"gleaner/sched"
)

// A run that never ends is told, not waited for.
func TestMain(m *testing.M) {
	time.AfterFunc(time.Minute, func() { panic("lock: some run does not end") })
	os.Exit(m.Run())
}

// dice throws numbers that look like chance and are the same in each run.
type dice uint64

func (x *dice) throw(n int) int {
	*x = *x*6364136223846793005 + 1442695040888963407
	return int(uint64(*x)>>33) % n
}

func (x *dice) picks(n int) []byte {
	out := make([]byte, n)
	for i := range out {
		out[i] = byte(x.throw(256))
	}
	return out
}

// one is any of some.
func one[T any](x *dice, some ...T) T { return some[x.throw(len(some))] }

// name is an error's name.
func name(no api.Errno) string {
	switch no {
	case api.OK:
		return "OK"
	case api.ErrNil:
		return "ErrNil"
	case api.ErrPanic:
		return "ErrPanic"
	case api.ErrStuck:
		return "ErrStuck"
	case api.ErrOver:
		return "ErrOver"
	case api.ErrOwner:
		return "ErrOwner"
	case api.ErrAlone:
		return "ErrAlone"
	}
	return strconv.Itoa(int(no))
}

// is holds two texts against one another.
func is(t *testing.T, what, got, want string) {
	t.Helper()
	if got != want {
		t.Errorf("%s:\n got %s\nwant %s", what, got, want)
	}
}

// world is one of each kind, and a second Mutex; and what bodies were answered, act by act.
type world struct {
	m, n *lock.Mutex
	f    *lock.Fair
	rw   *lock.RW
	g    *lock.Gate
	c    *lock.Cell[int]
	said map[int]string
	has  map[string]int // how many have taken a thing and not let it go, by what they were answered
}

// made is a world of new ones; the cell holds 0.
func made() *world {
	return &world{m: lock.NewMutex(), n: lock.NewMutex(), f: lock.NewFair(), rw: lock.NewRW(), g: lock.NewGate(), c: lock.NewCell(0), has: map[string]int{}}
}

// unmade is a world of ones that no New made.
func unmade() *world {
	return &world{m: new(lock.Mutex), n: new(lock.Mutex), f: new(lock.Fair), rw: new(lock.RW), g: new(lock.Gate), c: new(lock.Cell[int])}
}

// calls is a word for each call that takes a baton or changes something. Of a cell's the figures are what it is handed.
const calls = "m.Lock m.TryLock m.Unlock f.Lock f.Unlock rw.RLock rw.RUnlock rw.Lock rw.Unlock g.Enter g.Leave g.Wait c.Load c.Store7 c.Swap7 c.Cas07"

// call does what a word says, and tells the answer.
func (w *world) call(b *sched.Baton, word string) string {
	switch word {
	case "m.Lock":
		return name(w.m.Lock(b))
	case "m.TryLock":
		ok, no := w.m.TryLock(b)
		return strconv.FormatBool(ok) + name(no)
	case "m.Unlock":
		return name(w.m.Unlock(b))
	case "n.Lock":
		return name(w.n.Lock(b))
	case "n.Unlock":
		return name(w.n.Unlock(b))
	case "f.Lock":
		return name(w.f.Lock(b))
	case "f.Unlock":
		return name(w.f.Unlock(b))
	case "rw.RLock":
		return name(w.rw.RLock(b))
	case "rw.RUnlock":
		return name(w.rw.RUnlock(b))
	case "rw.Lock":
		return name(w.rw.Lock(b))
	case "rw.Unlock":
		return name(w.rw.Unlock(b))
	case "g.Enter":
		return name(w.g.Enter())
	case "g.Leave":
		return name(w.g.Leave())
	case "g.Wait":
		return name(w.g.Wait(b))
	}
	return w.callCell(b, word)
}

func (w *world) callCell(b *sched.Baton, word string) string {
	figure := func(fromEnd int) int { return int(word[len(word)-fromEnd] - '0') }
	switch strings.TrimRight(word, "0123456789") {
	case "c.Load":
		return strconv.Itoa(w.c.Load(b))
	case "c.Store":
		w.c.Store(b, figure(1))
		return "-"
	case "c.Swap":
		return strconv.Itoa(w.c.Swap(b, figure(1)))
	case "c.Cas":
		return strconv.FormatBool(w.c.Cas(b, figure(2), figure(1)))
	case "step":
		b.Step()
		return ""
	}
	panic("no such word: " + word)
}

// do is call; behind ~ it is made with a nil baton, behind ^ with one that no run made.
func (w *world) do(b *sched.Baton, word string) string {
	switch word[0] {
	case '~':
		return w.call(nil, word[1:])
	case '^':
		return w.call(new(sched.Baton), word[1:])
	}
	answer := w.call(b, word)
	if thing, locked := strings.CutSuffix(word, "Lock"); locked && answer == "OK" {
		w.has[thing]++
	} else if thing, let := strings.CutSuffix(word, "Unlock"); let && answer == "OK" {
		w.has[thing]--
	}
	return answer
}

// body does the words of a program, one after another.
func (w *world) body(program string) func(*sched.Baton) {
	return func(b *sched.Baton) {
		for _, word := range strings.Fields(program) {
			if answer := w.do(b, word); answer != "" {
				w.said[b.Act()] += " " + answer
			}
		}
	}
}

// look is all that the calls without a baton tell.
func (w *world) look() string {
	writer := "-"
	if w.rw.Writer() {
		writer = "w"
	}
	list := []int{w.m.Holder(), w.n.Holder(), w.f.Waiting(), w.rw.Readers(), w.g.Count(), w.c.Acts()}
	var s strings.Builder
	for _, n := range list {
		s.WriteString(strconv.Itoa(n) + ",")
	}
	return s.String() + writer
}

// play is programs, a thread each, and how they are run.
type play struct {
	programs []string
	picks    []byte
	most     int // 0: as many as there are
}

// run plays it, and calls behind behind each act.
func (w *world) run(p play, behind func()) (api.Report, api.Errno) {
	var list []func(*sched.Baton)
	for _, program := range p.programs {
		list = append(list, w.body(program))
	}
	if p.most == 0 {
		p.most = math.MaxInt
	}
	w.said, w.has = map[int]string{}, map[string]int{}
	return sched.Watch(list, p.picks, p.most, behind)
}

// film runs a play and tells each act: who acted, what was answered in it, and what look tells behind it; and how the run ended.
func (w *world) film(p play, look func() string) string {
	var looks []string
	r, no := w.run(p, func() { looks = append(looks, look()) })
	var s strings.Builder
	for i, who := range r.Acts {
		s.WriteString(strconv.Itoa(int(who)) + w.said[i] + ":" + looks[i] + " | ")
	}
	return s.String() + name(no)
}

// alone does a program's words without a thread, and tells the answers and what look tells at the end.
func (w *world) alone(program string, look func() string) string {
	var s strings.Builder
	for _, word := range strings.Fields(program) {
		if answer := w.do(nil, word); answer != "" {
			s.WriteString(answer + " ")
		}
	}
	return s.String() + ":" + look()
}

// ready is which threads are ready behind the picks' acts, and for each the pick by which it acts next.
func ready(programs []string, picks []byte) map[string]byte {
	out := map[string]byte{}
	for p := range len(programs) {
		next := append(slices.Clip(picks), byte(p))
		r, _ := made().run(play{programs, next, len(next)}, nil)
		if len(r.Acts) == len(next) {
			out[strconv.Itoa(int(r.Acts[len(picks)]))] = byte(p)
		}
	}
	return out
}

// steer is the picks by which threads act in an order; it must be one that they can act in.
func steer(t *testing.T, programs []string, order string) []byte {
	t.Helper()
	var picks []byte
	for i, who := range strings.Split(order, "") {
		p, may := ready(programs, picks)[who]
		if !may {
			t.Fatalf("%q: thread %s is not ready for act %d of %s", programs, who, i, order)
		}
		picks = append(picks, p)
	}
	return picks
}

// readyBehind is the numbers of the threads that are ready when they have acted in an order.
func readyBehind(t *testing.T, programs []string, order string) string {
	t.Helper()
	return strings.Join(slices.Sorted(maps.Keys(ready(programs, steer(t, programs, order)))), "")
}

// scene is a play of new ones, in an order and then in turn, and what is to be seen of it.
type scene struct {
	programs []string
	order    string
	want     string
}

// scenes holds the films of scenes against what they are to be; look is what is seen of a world behind each act.
func scenes(t *testing.T, what string, look func(w *world) string, list []scene) {
	t.Helper()
	for _, s := range list {
		w := made()
		var picks []byte
		if s.order != "" {
			picks = steer(t, s.programs, s.order)
		}
		is(t, what+": "+strings.Join(s.programs, " / "), w.film(play{s.programs, picks, 0}, func() string { return look(w) }), s.want)
	}
}

// threads is programs as they are listed.
func threads(programs ...string) []string { return programs }
