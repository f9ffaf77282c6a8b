package roots_test

import (
	"slices"
	"strings"
	"testing"
	"unsafe"

	"gleaner/api"
	"gleaner/roots"
)

// P13.9: two tables, changed in turns.
func TestApart(t *testing.T) {
	x, y := made(t), made(t)
	z := from(t, read("a=1", "b=2"))
	plays(t, "one", x, `
		Set a=K b=L         | OK OK`)
	plays(t, "another", y, `
		books               | 0 0
		Set a=M             | OK
		Drop b              | ErrRoot`)
	plays(t, "a third", z, `
		Drop a              | OK
		Set c=3             | OK`)
	plays(t, "the one again", x, `
		books               | 2 2
		All                 | a=K b=L
		Drop a              | OK`)
	plays(t, "the other again", y, `
		books               | 1 1
		At 0 1 2            | [] [a=M] ErrVersion`)
	plays(t, "the third again", z, `
		books               | 2 2
		At 0 1 2            | [a=1 b=2] [b=2] [b=2 c=3]`)
}

// P13.9: one made of what another one answered goes its own way.
func TestMadeOfAnother(t *testing.T) {
	x := from(t, numbered(20))
	y := from(t, x.All())
	then := listed(numbered(20))
	for i, r := range numbered(20) {
		if i%2 == 0 {
			x.Drop(r.Name)
		} else {
			y.Set(r.Name, keyed("Z"))
		}
	}
	is(t, "one", x.Len(), 10)
	is(t, "the other", y.Len(), 20)
	is(t, "the one's beginning", at(x.At(0)), "["+then+"]")
	is(t, "the other's beginning", at(y.At(0)), "["+then+"]")
	k, _ := x.Get("n101")
	is(t, "the one's key", k, api.Key{2})
}

// P13.9: lists that were answered are written over, spare room included.
func TestWrittenOver(t *testing.T) {
	p, r := plainNew(), made(t)
	for _, x := range []calls{p, r} {
		plays(t, "ahead", x, `
			Set a=K b=L c=M d=N e=O | OK OK OK OK OK
			Drop c              | OK
			Set a=Z             | OK`)
	}
	junk := func(list []api.Root) {
		list = list[:cap(list)]
		for i := range list {
			list[i] = api.Root{Name: "junk", Key: keyed("J")}
		}
	}
	for range 2 {
		junk(r.All())
		for v := range r.Version() + 1 {
			list, _ := r.At(v)
			junk(list)
			for w := range r.Version() + 1 {
				turns, _ := r.Turns(v, w)
				turns = turns[:cap(turns)]
				for i := range turns {
					turns[i] = api.Turn{Name: "junk", Has: true, New: keyed("J")}
				}
			}
		}
		alike(t, "P13.9: answers written over", r, p)
	}
	one, two := r.All(), r.All()
	one[0].Name = "junk"
	is(t, "P13.9: two answers", two[0].Name, "a")
}

// P13.9, P0.1: the list handed to From is written over, and what lies behind it is not written to.
func TestHandedIn(t *testing.T) {
	whole := numbered(40)
	list := whole[:30]
	r := from(t, list)
	want := listed(numbered(30))
	is(t, "P0.1: the list and what lies behind it", listed(whole), listed(numbered(40)))
	for i := range whole {
		whole[i] = api.Root{Name: "junk", Key: keyed("J")}
	}
	is(t, "P13.9: All", listed(r.All()), want)
	is(t, "P13.9: At", at(r.At(0)), "["+want+"]")
	r.Set("n100", keyed("K"))
	r.Drop("n129")
	for _, x := range whole {
		is(t, "P0.1: not written to", x.Name, "junk")
	}
	is(t, "P13.9: At behind changes", at(r.At(0)), "["+want+"]")
}

// P0.1: a name that is a piece of a long text does not keep that text.
func TestPieceOfText(t *testing.T) {
	long := strings.Repeat("long", 100)
	set := made(t)
	set.Set(long[4:12], keyed("L"))
	for _, r := range []*roots.Roots{set, from(t, []api.Root{{Name: long[4:12], Key: keyed("L")}})} {
		x, ok := r.Next("", true)
		is(t, "the root", stepped(x, ok), "longlong=L")
		is(t, "P0.1: the text is kept", unsafe.StringData(x.Name) == unsafe.StringData(long[4:]), false)
	}
}

// nothing holds every call's answer against what a nil table's is to be.
func nothing(t *testing.T, what string, r *roots.Roots) {
	t.Helper()
	for range 3 {
		plays(t, what, r, `
			Set a=K ""=K A=K    | ErrNil ErrNil ErrNil
			Drop a "" A         | ErrNil ErrNil ErrNil
			Get a "" A          | ErrNil ErrNil ErrNil
			Next "" a           | - -
			Next any "" a       | - -
			All                 |
			steps               |
			books               | 0 0
			At 0 1 18446744073709551615 | ErrNil ErrNil ErrNil
			Turns 0 0           | ErrNil
			Turns 0 1           | ErrNil
			Turns 1 0           | ErrNil`)
	}
}

// P13.9: every call on a nil Roots; P0.1: a zero one is as a nil one; so is the one that From refused.
func TestNil(t *testing.T) {
	nothing(t, "P13.9: a nil table", nil)
	nothing(t, "P0.1: a zero table", &roots.Roots{})
	refused, _ := roots.From(read("A=K"))
	nothing(t, "P0.1: a refused table", refused)
}

// P13.6: equal lists, whatever they came by, are answered alike.
func TestAlike(t *testing.T) {
	list := numbered(64)
	back := slices.Clone(list)
	slices.Reverse(back)
	x, y, z := from(t, list), made(t), made(t)
	for i := range list {
		y.Set(list[i].Name, list[i].Key)
		z.Set(back[i].Name, back[i].Key)
	}
	for _, r := range []*roots.Roots{x, y, z} {
		is(t, "All", listed(r.All()), listed(list))
		is(t, "steps", steps(r), listed(list))
	}
}
