package arena_test

import (
	"math"
	"strings"
	"testing"

	"gleaner/api"
	"gleaner/arena"
)

// P10.1: at, within and outside of each limit.
func TestNew(t *testing.T) {
	for _, c := range []api.Config{{Segs: 3, Size: 64}, {Segs: 4, Size: 65}, {Segs: 63, Size: 64}, {Segs: 64, Size: 64}, {Segs: 3, Size: 65535}, {Segs: 3, Size: 65536}, {Segs: 64, Size: 65536}} {
		a, no := arena.New(c)
		if no != api.OK {
			t.Errorf("P10.1: %v: %s", c, name(no))
			continue
		}
		is(t, "P10.1", states(a), strings.Repeat("f", c.Segs-1)+"s")
		is(t, "P10.1", whole(a), whole(newPlain(c)))
		if a.Config() != c {
			t.Errorf("P10.14: Config: %v, not %v", a.Config(), c)
		}
	}
	for _, c := range []api.Config{{}, {Segs: 2, Size: 64}, {Segs: 65, Size: 64}, {Segs: 3, Size: 63}, {Segs: 3, Size: 65537}, {Segs: 2, Size: 63}, {Segs: 65, Size: 65537}, {Segs: 0, Size: 100}, {Segs: 3, Size: 0},
		{Segs: -3, Size: 64}, {Segs: 3, Size: -64}, {Segs: math.MaxInt, Size: 64}, {Segs: math.MinInt, Size: 64}, {Segs: 3, Size: math.MaxInt}, {Segs: 3, Size: math.MinInt}, {Segs: 64, Size: 3}} {
		if a, no := arena.New(c); a != nil || no != api.ErrArg {
			t.Errorf("P10.1: %v: %s", c, name(no))
		}
	}
}

// P10.1: two arenas go their ways apart.
func TestApart(t *testing.T) {
	a, b := made(t, 3, 100), made(t, 3, 100)
	plays(t, "P10.3", a, `
		Reserve 10          | 0.0 OK
		Write 0 0 10 1      | OK
		Hold 0              | OK`)
	is(t, "P10.1: another one", whole(b), whole(newPlain(b.Config())))
	plays(t, "P10.3", b, `
		Reserve 20          | 0.0 OK
		Settle 0 0 20 1     | OK`)
	is(t, "P10.14", segments(a), "o10 0 1 1, f0 0 0 0, s0 0 0 0")
}

// The chapter's examples.
func TestChapter(t *testing.T) {
	plays(t, "the examples", made(t, 3, 100), `
		states              | ffs
		Reserve 60          | 0.0 OK
		Reserve 50          | 1.0 OK
		states              | xos
		Reserve 51          | ErrFull
		states              | xos
		Write 0 10 51 1     | ErrRoom
		Write 0 10 50 1     | OK
		Settle 0 0 59 1     | ErrRoom
		Settle 0 0 60 1     | OK
		Settle 0 0 60 1     | ErrRoom
		Settle 1 0 50 1     | OK
		Seal                | -
		Victims             | 1
		ReserveDest 50      | 2.0 OK
		states              | xxm
		Settle 2 0 50 1     | OK
		Free 1              | ErrLive
		Hold 1              | OK
		Dead 1 0 50         | OK
		Free 1              | ErrHeld
		Let 1               | OK
		Free 1              | OK
		states              | xsm
		Finish              | -
		states              | xso
		Hold 1              | ErrSeg
		Let 0               | ErrSeg
		Read 0 59 2         | ErrRoom
		Read 0 60 0         | OK`)
}

// nothing holds every call's answer against what a nil arena's is to be.
func nothing(t *testing.T, what string, a *arena.Arena) {
	t.Helper()
	plays(t, what, a, `
		Reserve 1           | ErrNil
		Reserve 0           | ErrNil
		Reserve -1          | ErrNil
		ReserveDest 1       | ErrNil
		ReserveDest max     | ErrNil
		Write 0 0 0 0       | ErrNil
		Write 0 0 1 0       | ErrNil
		Write -1 5 1 0      | ErrNil
		Settle 0 0 0 0      | ErrNil
		Settle 0 0 1 1      | ErrNil
		Dead 0 0 0          | ErrNil
		Dead 0 0 1          | ErrNil
		Hold 0              | ErrNil
		Hold -1             | ErrNil
		Let 0               | ErrNil
		Let max             | ErrNil
		Free 0              | ErrNil
		Free min            | ErrNil
		Read 0 0 0          | ErrNil
		Read 0 0 -1         | ErrNil
		Seal                | -
		Finish              | -
		Victims             |
		Config              | 0 0
		segments            |
		bytes 0             |
		bytes -1            |
		Live                |
		Pending             |`)
}

// P0.1: a nil Arena, and a zero one; nothing happens to either.
func TestNil(t *testing.T) {
	nothing(t, "a nil Arena", nil)
	var zero arena.Arena
	nothing(t, "a zero Arena", &zero)
	nothing(t, "a zero Arena, once more", &zero)
	refused, _ := arena.New(api.Config{})
	nothing(t, "one that New refused", refused)
	refused, _ = arena.From(api.Config{Segs: 3, Size: 64}, nil, nil, nil)
	nothing(t, "one that From refused", refused)
}
