package roots_test

import (
	"math"
	"slices"
	"strconv"
	"testing"

	"gleaner/api"
	"gleaner/roots"
)

// P13.6: At of each version behind all later changes, and once more behind further ones.
func TestAt(t *testing.T) {
	both(t, "P13.6", `
		At 0 1              | [] ErrVersion
		Set b=K             | OK
		At 0 1 2            | [] [b=K] ErrVersion
		Set a=L             | OK
		Set b=M             | OK
		At 0 1 2 3 4        | [] [b=K] [a=L b=K] [a=L b=M] ErrVersion
		Drop b              | OK
		Drop a              | OK
		At 0 1 2 3 4 5 6    | [] [b=K] [a=L b=K] [a=L b=M] [a=L] [] ErrVersion
		Set a=N             | OK
		At 0 1 2 3 4 5 6 7  | [] [b=K] [a=L b=K] [a=L b=M] [a=L] [] [a=N] ErrVersion
		At 18446744073709551615 9223372036854775808 4294967296 4294967298 | ErrVersion ErrVersion ErrVersion ErrVersion
		Set ""=K            | ErrName
		Drop b              | ErrRoot
		books               | 1 6
		At 6 7              | [a=N] ErrVersion`)
}

// P13.6: a version is the same for ever, through very many changes.
func TestForEver(t *testing.T) {
	some := dice(6)
	r := from(t, numbered(30))
	told := []string{listed(r.All())}
	for len(told) <= 3000 {
		name := "n" + strconv.Itoa(100+some.throw(64))
		if r.Len() > some.throw(64) {
			if r.Drop(name) != api.OK {
				continue
			}
		} else if r.Set(name, api.Key{byte(some.throw(3))}) != api.OK {
			continue
		}
		told = append(told, listed(r.All()))
		is(t, "P13.6: Version", r.Version(), uint64(len(told)-1))
		v := some.throw(len(told))
		is(t, "P13.6: At "+strconv.Itoa(v), at(r.At(uint64(v))), "["+told[v]+"]")
	}
	for v, want := range told {
		is(t, "P13.6: At "+strconv.Itoa(v)+" at the end", at(r.At(uint64(v))), "["+want+"]")
	}
}

// P13.7: Turns, from above to and below it, of one with itself, and of versions that are not there.
func TestTurns(t *testing.T) {
	both(t, "P13.7", `
		Turns 0 0           | []
		Turns 0 1           | ErrVersion
		Turns 1 0           | ErrVersion
		Turns 1 1           | ErrVersion
		Set m=K             | OK
		Turns 0 1           | [m:->K]
		Turns 1 0           | [m:K>-]
		Turns 1 1           | []
		Turns 1 2           | ErrVersion
		Turns 2 1           | ErrVersion
		Turns 0 18446744073709551615 | ErrVersion
		Turns 18446744073709551615 0 | ErrVersion
		Turns 9223372036854775808 1 | ErrVersion
		Set m=L             | OK
		Turns 1 2           | [m:K>L]
		Turns 2 1           | [m:L>K]
		Turns 0 2           | [m:->L]
		Drop m              | OK
		Turns 2 3           | [m:L>-]
		Turns 3 2           | [m:->L]
		Turns 0 3           | []
		Set m=L             | OK
		Turns 2 4           | []
		Turns 4 2           | []
		Turns 1 4           | [m:K>L]
		Turns 3 4           | [m:->L]
		Set a=K z=L         | OK OK
		Turns 4 6           | [a:->K z:->L]
		Turns 6 4           | [a:K>- z:L>-]
		Turns 1 6           | [a:->K m:K>L z:->L]
		Turns 6 1           | [a:K>- m:L>K z:L>-]
		Set m=M             | OK
		Drop a              | OK
		Turns 6 8           | [a:K>- m:L>M]
		Turns 5 8           | [a:K>- m:L>M z:->L]
		Turns 8 5           | [a:->K m:M>L z:L>-]`)
}

// P13.7: the zero key is a key as others are: what was none is told by Had and Has.
func TestTurnsOfZeroKeys(t *testing.T) {
	both(t, "P13.7: zero keys", `
		Set a=0             | OK
		Turns 0 1           | [a:->0]
		Turns 1 0           | [a:0>-]
		Set a=K             | OK
		Turns 1 2           | [a:0>K]
		Turns 2 1           | [a:K>0]
		Drop a              | OK
		Turns 1 3           | [a:0>-]
		Set a=0             | OK
		Turns 1 4           | []
		Turns 3 4           | [a:->0]
		Set a=KL            | OK
		Set a=KM            | OK
		Turns 5 6           | [a:KL>KM]`)
	r := made(t)
	r.Set("a", api.Key{})
	turns, _ := r.Turns(0, 1)
	is(t, "a turn", len(turns) == 1 && turns[0] == api.Turn{Name: "a", Has: true}, true)
	turns, _ = r.Turns(1, 0)
	is(t, "a turn", len(turns) == 1 && turns[0] == api.Turn{Name: "a", Had: true}, true)
}

// P13.7: keys that are unlike in one bit, whichever, are unlike.
func TestTurnsOfBits(t *testing.T) {
	r := made(t)
	r.Set("a", api.Key{})
	for bit := range 256 {
		var k api.Key
		k[bit/8] = 1 << (bit % 8)
		r.Set("a", k)
		turns, no := r.Turns(1, r.Version())
		is(t, "P13.7: one bit", no == api.OK && len(turns) == 1 && turns[0] == api.Turn{Name: "a", Had: true, Has: true, New: k}, true)
	}
}

// lays lays turns over a list, by the chapter's words.
func lays(list []api.Root, turns []api.Turn) []api.Root {
	over := map[string]api.Key{}
	for _, x := range list {
		over[x.Name] = x.Key
	}
	for _, x := range turns {
		delete(over, x.Name)
		if x.Has {
			over[x.Name] = x.New
		}
	}
	var out []api.Root
	for name, k := range over {
		out = append(out, api.Root{Name: name, Key: k})
	}
	slices.SortFunc(out, func(a, b api.Root) int {
		if a.Name < b.Name {
			return -1
		}
		return 1
	})
	return out
}

// about are turns with what was and what is changed about.
func about(turns []api.Turn) []api.Turn {
	var out []api.Turn
	for _, x := range turns {
		out = append(out, api.Turn{Name: x.Name, Had: x.Has, Has: x.Had, Old: x.New, New: x.Old})
	}
	return out
}

// laidOver holds P13.8 for each pair of a table's versions, by its own answers alone.
func laidOver(t *testing.T, what string, r *roots.Roots) {
	t.Helper()
	for v := range r.Version() + 1 {
		for w := range r.Version() + 1 {
			label := what + ": " + strconv.FormatUint(v, 10) + " to " + strconv.FormatUint(w, 10)
			here, _ := r.At(v)
			there, _ := r.At(w)
			turns, no := r.Turns(v, w)
			is(t, label+": Turns", code(no), "OK")
			is(t, "P13.8: "+label+": laid over", listed(lays(here, turns)), listed(there))
			back, _ := r.Turns(w, v)
			is(t, "P13.8: "+label+": the other way round", turned(back, api.OK), turned(about(turns), api.OK))
			for i := 1; i < len(turns); i++ {
				is(t, "P13.7: "+label+": by name", turns[i-1].Name < turns[i].Name, true)
			}
		}
	}
}

// P13.7, P13.8: the turns between all pairs of versions, behind drawn changes of few names and of many.
func TestLaidOver(t *testing.T) {
	for game := range 12 {
		some := dice(80 + game)
		names := numbered([]int{2, 5, 20, 64}[game%4])
		p, r := plainNew(), made(t)
		for p.Version() < 45 {
			x := names[some.throw(len(names))]
			if some.throw(3) == 0 {
				is(t, "Drop", code(r.Drop(x.Name)), code(p.Drop(x.Name)))
			} else {
				k := api.Key{byte(some.throw(2))}
				is(t, "Set", code(r.Set(x.Name, k)), code(p.Set(x.Name, k)))
			}
		}
		laidOver(t, "game "+strconv.Itoa(game), r)
		alike(t, "P13.7: game "+strconv.Itoa(game), r, p)
	}
}

// P13.7: great numbers for versions.
func TestNoVersion(t *testing.T) {
	r := made(t)
	r.Set("a", keyed("K"))
	for _, v := range []uint64{2, 3, math.MaxInt64, math.MaxInt64 + 1, math.MaxInt64 + 2, math.MaxUint64 - 1, math.MaxUint64, 1 << 32, 1<<32 + 1} {
		is(t, "P13.6: At", at(r.At(v)), "ErrVersion")
		is(t, "P13.7: from", turned(r.Turns(v, 0)), "ErrVersion")
		is(t, "P13.7: to", turned(r.Turns(1, v)), "ErrVersion")
		is(t, "P13.7: both", turned(r.Turns(v, v)), "ErrVersion")
	}
}
