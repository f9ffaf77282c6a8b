package roots_test

import (
	"strings"
	"testing"

	"gleaner/api"
)

// P13.5: Get of a root, of none, of a name that may not be, of one that was dropped.
func TestGet(t *testing.T) {
	both(t, "P13.5: Get", `
		Set a=K ab=L b=M a/b=N | OK OK OK OK
		Get a ab b a/b      | K L M N
		Get c aa a. /       | ErrRoot ErrRoot ErrRoot ErrRoot
		Get "" A "a\x20b" "é" "a\x00" | ErrName ErrName ErrName ErrName ErrName
		Drop ab             | OK
		Get a ab b a/b      | K ErrRoot M N
		Set ab=O a=P        | OK OK
		Get a ab b a/b      | P O M N
		books               | 4 7`)
}

// P13.5: Next of names and of any text.
func TestNext(t *testing.T) {
	both(t, "P13.5: Next", `
		Set m=K d=L t=M d/1=N | OK OK OK OK
		All                 | d=L d/1=N m=K t=M
		Next d d/1 m t      | d/1=N m=K t=M -
		Next any d d/1 m t  | d=L d=L d=L d=L
		Next "" a c "c\xff" | d=L d=L d=L d=L
		Next d- d. d/ d/0 d/10 d0 e | d/1=N d/1=N d/1=N d/1=N m=K m=K m=K
		Next lz m0 sz t0 u  | m=K t=M t=M - -
		Next "d\x00" "m\x20" "t\x00" "\x00" "\xff" Z ~ | d/1=N t=M - d=L - d=L -
		Next any "" "\xff" zzz Z | d=L d=L d=L d=L
		steps               | d=L d/1=N m=K t=M
		books               | 4 4
		Drop d/1            | OK
		Next d d/1          | m=K m=K
		Drop t              | OK
		Next m              | -
		Drop d              | OK
		Next "" any         | m=K m=K
		Drop m              | OK
		Next "" m           | - -
		Next any "" m       | - -`)
	long := strings.Repeat("y", 1<<16)
	r := made(t)
	r.Set("y", keyed("K"))
	r.Set(strings.Repeat("y", 32), keyed("L"))
	is(t, "P13.5: a long text", stepped(r.Next(long, false)), "-")
	is(t, "P13.5: a long text, any", stepped(r.Next(long, true)), "y=K")
	is(t, "P13.5: a text of 31", stepped(r.Next(long[:31], false)), long[:32]+"=L")
	is(t, "P13.5: a text of 32", stepped(r.Next(long[:32], false)), "-")
}

// P13.5: Next of every text of up to three of some letters, over roots that are such.
func TestNextEverywhere(t *testing.T) {
	var texts []string
	for _, a := range []string{"", "a", "b", "/", "z"} {
		for _, b := range []string{"", "a", "b", "/", "z"} {
			for _, c := range []string{"", "a", "-", "z"} {
				texts = append(texts, a+b+c)
			}
		}
	}
	some := dice(5)
	p, r := plainNew(), made(t)
	for n := range 60 {
		name, k := texts[some.throw(len(texts))], api.Key{byte(n)}
		is(t, "Set", code(r.Set(name, k)), code(p.Set(name, k)))
		for _, s := range texts {
			is(t, "P13.5: Next of "+s, stepped(r.Next(s, false)), stepped(p.Next(s, false)))
			is(t, "P13.5: Next of any", stepped(r.Next(s, true)), stepped(p.Next(s, true)))
			is(t, "P13.5: Get of "+s, found(r.Get(s)), found(p.Get(s)))
		}
	}
}

// P13.5: names are ordered byte by byte: a shorter one comes ahead of those that go on behind it.
func TestOrder(t *testing.T) {
	both(t, "P13.5: order", `
		Set z=1 a=2 _=3 9=4 0=5 /=6 .=7 -=8 aa=9 a-=A a/=B a0=C a_=D | OK OK OK OK OK OK OK OK OK OK OK OK OK
		All                 | -=8 .=7 /=6 0=5 9=4 _=3 a=2 a-=A a/=B a0=C a_=D aa=9 z=1
		steps               | -=8 .=7 /=6 0=5 9=4 _=3 a=2 a-=A a/=B a0=C a_=D aa=9 z=1
		books               | 13 13`)
}

// P13.5: what is asked changes nothing.
func TestLooking(t *testing.T) {
	r, p := made(t), plainNew()
	for _, x := range []calls{r, p} {
		plays(t, "ahead", x, `
			Set a=K b=L a=M     | OK OK OK
			Drop b              | OK`)
	}
	for range 3 {
		plays(t, "P13.5", r, `
			Get a b c ""        | M ErrRoot ErrRoot ErrName
			Next "" a b         | a=M - -
			Next any b          | a=M
			At 2 9              | [a=K b=L] ErrVersion
			Turns 1 4           | [a:K>M]
			Turns 1 9           | ErrVersion
			Drop c ""           | ErrRoot ErrName
			Set "B"=K           | ErrName`)
		alike(t, "P13.5: looked at", r, p)
	}
}
