package roots_test

import (
	"slices"
	"strings"
	"testing"

	"gleaner/api"
	"gleaner/roots"
)

// The chapter's examples.
func TestChapter(t *testing.T) {
	long := strings.Repeat("n", 33)
	lines := `
		Set a=K b/1=K ""=K A=K ` + long + `=K | OK OK ErrName ErrName ErrName
		books               | 2 2
		All                 | a=K b/1=K
		Set a=L             | OK
		Drop c b/1          | ErrRoot OK
		books               | 1 4
		At 2 4 5            | [a=K b/1=K] [a=L] ErrVersion
		Turns 2 4           | [a:K>L b/1:K>-]
		Turns 4 0           | [a:L>-]
		Turns 3 3           | []
		Next any ""         | a=L
		Next a              | -
		Next any a          | a=L`
	p, r := plainNew(), made(t)
	for _, x := range []calls{p, r} {
		plays(t, "the examples", x, lines)
		for _, further := range numbered(63) {
			is(t, "63 further names", code(x.Set(further.Name, further.Key)), "OK")
		}
		plays(t, "behind them", x, `
			Set zz=K            | ErrRoots
			Set a=K             | OK
			books               | 64 68`)
	}
	alike(t, "behind the examples", r, p)
}

// P13.2: a new table.
func TestNew(t *testing.T) {
	both(t, "P13.2: New", `
		books               | 0 0
		All                 |
		steps               |
		At 0 1              | [] ErrVersion
		Turns 0 0           | []
		Next "" a           | - -
		Next any "" zz      | - -
		Get a               | ErrRoot
		Drop a              | ErrRoot`)
	is(t, "P13.2: another table each", made(t) != made(t), true)
}

// P13.2: From of lists that may be.
func TestFrom(t *testing.T) {
	full := numbered(64)
	for _, list := range [][]api.Root{nil, {}, full[:0], read("a=K"), read("a=0"), read("a=K", "b=K"), read("-=K", ".=L", "/=M", "0=N", "9=O", "_=P", "a=Q", "a-=R", "aa=S"), full[:63], full} {
		was := slices.Clone(list)
		r := from(t, list)
		p, _ := plainFrom(list)
		alike(t, "P13.2: From of "+listed(list), r, p)
		is(t, "P13.2: version 0 are these", at(r.At(0)), "["+listed(list)+"]")
		is(t, "P0.1: the list stays", slices.Equal(list, was), true)
		for _, x := range list {
			is(t, "P13.5: Get of "+x.Name, found(r.Get(x.Name)), letters(x.Key))
			is(t, "P13.4: Drop of "+x.Name, code(r.Drop(x.Name)), code(p.Drop(x.Name)))
		}
		is(t, "P13.3: Set behind From", code(r.Set("other", keyed("Z"))), code(p.Set("other", keyed("Z"))))
		is(t, "P13.6: version 0 behind that", at(r.At(0)), "["+listed(list)+"]")
		is(t, "P13.5: All behind that", listed(r.All()), "other=Z")
	}
	is(t, "P13.3: Set at MaxRoots", code(from(t, full).Set("other", api.Key{})), "ErrRoots")
	is(t, "P13.3: Set below MaxRoots", code(from(t, full[1:]).Set("other", api.Key{})), "OK")
}

// P13.2: From of lists that may not be; ErrName comes ahead of ErrRoots, wherever the name stands.
func TestFromRefused(t *testing.T) {
	much := numbered(90)
	bad := func(n, at int, name string) []api.Root {
		list := slices.Clone(much[:n])
		list[at].Name = name
		return list
	}
	cases := []struct {
		what string
		list []api.Root
		want string
	}{
		{"one more than may be", much[:65], "ErrRoots"},
		{"many more", much, "ErrRoots"},
		{"no name", read(`""=K`), "ErrName"},
		{"a letter that may not be", read("a=K", "B=K", "c=K"), "ErrName"},
		{"the first", read("A=K", "b=K"), "ErrName"},
		{"the last", read("a=K", "b=K", `"c\x20"=K`), "ErrName"},
		{"33 bytes", read("a=K", strings.Repeat("b", 33)+"=K"), "ErrName"},
		{"two equal ones", read("a=K", "a=L"), "ErrName"},
		{"two equal ones of one key", read("a=K", "a=K"), "ErrName"},
		{"equal ones at the end", read("a=K", "b=K", "c=K", "c=K"), "ErrName"},
		{"names that fall", read("b=K", "a=K"), "ErrName"},
		{"names that fall late", read("a=K", "c=K", "b=K", "d=K"), "ErrName"},
		{"the longer one first", read("aa=K", "a=K"), "ErrName"},
		{"65, the first may not be", bad(65, 0, ""), "ErrName"},
		{"65, the 64th may not be", bad(65, 63, "N"), "ErrName"},
		{"65, the 65th may not be", bad(65, 64, "n1 64"), "ErrName"},
		{"65, the 65th falls", bad(65, 64, "a"), "ErrName"},
		{"65, the 65th is equal", bad(65, 64, much[63].Name), "ErrName"},
		{"90, the last may not be", bad(90, 89, "n200~"), "ErrName"},
		{"90, the last falls", bad(90, 89, "n"), "ErrName"},
		{"64, the last falls", bad(64, 63, "n"), "ErrName"},
	}
	for _, c := range cases {
		was := slices.Clone(c.list)
		_, no := plainFrom(c.list)
		is(t, "P13.2 (plain): "+c.what, code(no), c.want)
		r, no := roots.From(c.list)
		is(t, "P13.2: "+c.what, code(no), c.want)
		is(t, "P13.2: "+c.what+": no table", r == nil, true)
		is(t, "P0.1: "+c.what+": the list stays", slices.Equal(c.list, was), true)
	}
}

// P13.3: Set of a new name, and of one that is a root.
func TestSet(t *testing.T) {
	both(t, "P13.3", `
		Set m=K             | OK
		books               | 1 1
		Get m               | K
		Set m=L             | OK
		books               | 1 2
		Get m               | L
		Set m=L             | OK
		books               | 1 3
		At 0 1 2 3 4        | [] [m=K] [m=L] [m=L] ErrVersion
		Turns 2 3           | []
		Set b=0 z=0         | OK OK
		books               | 3 5
		All                 | b=0 m=L z=0
		Get b z             | 0 0
		Set z=KL b=0        | OK OK
		books               | 3 7
		Get z               | KL
		Set z=KM            | OK
		Turns 7 8           | [z:KL>KM]
		Set ""=K M=K "m\x20"=K "é"=K | ErrName ErrName ErrName ErrName
		books               | 3 8
		All                 | b=0 m=L z=KM`)
}

// P13.3: one more than MaxRoots is refused; one of them is not; behind a Drop there is room for one.
func TestFull(t *testing.T) {
	for _, turnRound := range []bool{false, true} {
		list := numbered(64)
		if turnRound {
			slices.Reverse(list)
		}
		p, r := plainNew(), made(t)
		for _, x := range list {
			is(t, "P13.3: up to MaxRoots", code(r.Set(x.Name, x.Key)), "OK")
			p.Set(x.Name, x.Key)
		}
		for _, x := range []calls{p, r} {
			plays(t, "P13.3: full", x, `
				books               | 64 64
				Set a=K n1005=K zz=K | ErrRoots ErrRoots ErrRoots
				Set ""=K A=K        | ErrName ErrName
				Get a               | ErrRoot
				books               | 64 64
				Set n100=K n131=L n163=M | OK OK OK
				Get n100 n131 n163  | K L M
				books               | 64 67
				Drop a              | ErrRoot
				Drop n131           | OK
				books               | 63 68
				Set zz=K            | OK
				Set n131=L          | ErrRoots
				Set zz=L            | OK
				books               | 64 70
				Drop n100 n163 zz   | OK OK OK
				Set a=1 b=2 c=3 d=4 | OK OK OK ErrRoots
				books               | 64 76`)
		}
		alike(t, "P13.3: behind it", r, p)
	}
}

// P13.4: Drop of a root, twice, of what is none; Set again behind it.
func TestDrop(t *testing.T) {
	both(t, "P13.4", `
		Drop a              | ErrRoot
		books               | 0 0
		Set a=K b=L c=M     | OK OK OK
		Drop b              | OK
		books               | 2 4
		All                 | a=K c=M
		Drop b              | ErrRoot
		Get b               | ErrRoot
		books               | 2 4
		Drop "" A "b\x20" b/ bb d | ErrName ErrName ErrName ErrRoot ErrRoot ErrRoot
		books               | 2 4
		Set b=L             | OK
		books               | 3 5
		Get b               | L
		Turns 3 5           | []
		Drop a c b          | OK OK OK
		books               | 0 8
		All                 |
		Drop a b c          | ErrRoot ErrRoot ErrRoot
		books               | 0 8
		Set c=K             | OK
		At 3 4 5 6 7 8 9    | [a=K b=L c=M] [a=K c=M] [a=K b=L c=M] [b=L c=M] [b=L] [] [c=K]`)
}

// P13.4: whichever is dropped of so many roots, in whichever order they came, the others stay.
func TestDropEach(t *testing.T) {
	some := dice(4)
	for n := 1; n <= 20; n++ {
		for i := range n {
			list := numbered(n)
			r := made(t)
			for _, at := range shuffled(&some, n) {
				r.Set(list[at].Name, list[at].Key)
			}
			is(t, "P13.4: Drop", code(r.Drop(list[i].Name)), "OK")
			is(t, "P13.4: Drop again", code(r.Drop(list[i].Name)), "ErrRoot")
			is(t, "P13.5: All", listed(r.All()), listed(slices.Concat(list[:i], list[i+1:])))
			is(t, "P13.5: steps", steps(r), listed(slices.Concat(list[:i], list[i+1:])))
			is(t, "P13.6: At", at(r.At(uint64(n))), "["+listed(list)+"]")
		}
	}
}

// shuffled are the numbers below n, in a drawn order.
func shuffled(some *dice, n int) []int {
	var out []int
	for i := range n {
		out = slices.Insert(out, some.throw(i+1), i)
	}
	return out
}

// P13.3, P13.4: all orders in which few names can be set, and all in which they can be dropped.
func TestOrders(t *testing.T) {
	names := []string{"a", "b", "c", "d", "e"}
	orders := orders(names)
	is(t, "orders", len(orders), 120)
	for i, in := range orders {
		out := orders[(i*7)%len(orders)]
		p, r := plainNew(), made(t)
		for n, name := range slices.Concat(in, out) {
			k := api.Key{byte(n)}
			if n < len(in) {
				is(t, "P13.3: Set", code(r.Set(name, k)), code(p.Set(name, k)))
			} else {
				is(t, "P13.4: Drop", code(r.Drop(name)), code(p.Drop(name)))
			}
		}
		alike(t, "set in the order "+strings.Join(in, "")+", dropped in "+strings.Join(out, ""), r, p)
	}
}

func orders(names []string) [][]string {
	if len(names) == 0 {
		return [][]string{nil}
	}
	var out [][]string
	for i, name := range names {
		for _, rest := range orders(slices.Concat(names[:i], names[i+1:])) {
			out = append(out, append([]string{name}, rest...))
		}
	}
	return out
}
