package sweep_test

import (
	"slices"
	"testing"

	"gleaner/api"
)

// P17.5: a key is put between the acts, below the one that was looked at last, above it, and under the very one.
func TestPutBeside(t *testing.T) {
	both(t, "P17.5: a key that is put", `
		put b=4/0 d=4/1 f=4/2    | true true true
		Act                      | false
		put a=4/3 b=4/4 c=4/5    | true true true
		Act                      | false
		keys                     | a=4/3 b=4/4 d=4/1 f=4/2
		put c=4/6 ca=4/7         | true true
		Act                      | false
		put da=4/8 e=5/9 e0=4/10 | true true true
		Act 2                    | false false
		keys                     | a=4/3 b=4/4 c=4/6 e=5/9 e0=4/10 f=4/2
		Removed                  | 5
		Act 4                    | false false false true
		keys                     | a=4/3 b=4/4 c=4/6 e=5/9
		Removed                  | 7
		gone                     | [0 1 2 5 7 8 10]`)
	both(t, "P17.5: each time just above", `
		put a=4/0                | true
		Act                      | false
		put ab=4/1               | true
		Act                      | false
		put aa=4/2 ac=4/3        | true true
		Act 2                    | false true
		keys                     | aa=4/2
		Removed                  | 3`)
}

// P17.5: a key is marked ahead of its act, behind it, and marked with another epoch.
func TestMarkBeside(t *testing.T) {
	both(t, "P17.5: a key that is marked", `
		put a=4/0 b=4/1 c=5/2 d=5/3 | true true true true
		mark 5 b                 | true
		Act 2                    | false false
		keys                     | b=5/1 c=5/2 d=5/3
		mark 4 b c               | true true
		Act                      | false
		keys                     | b=4/1 d=5/3
		mark 4 d                 | true
		mark 5 d                 | true
		Act 2                    | false true
		mark 6 d                 | true
		Act                      | true
		keys                     | b=4/1 d=6/3
		Removed                  | 2`)
}

// P17.5: a key is taken out ahead of its act, and put again.
func TestDelBeside(t *testing.T) {
	both(t, "P17.5: a key that is taken out", `
		put a=4/0 b=4/1 c=4/2 d=4/3 | true true true true
		del b                    | true
		Act 2                    | false false
		keys                     | d=4/3
		Removed                  | 2
		gone                     | [0 2]
		del d                    | true
		Act                      | true
		put d=5/4                | true
		Act 2                    | false true
		keys                     | d=5/4
		Removed                  | 2`)
	both(t, "P17.5: the one that was looked at last", `
		put a=5/0 b=4/1          | true true
		Act                      | false
		del a                    | true
		Act 2                    | false true
		put a=4/2 b=4/3          | true true
		Act                      | true
		keys                     | a=4/2 b=4/3`)
}

// P17.5: a key is moved to another place ahead of its act: the record at the place that it has then is dead.
func TestMoveBeside(t *testing.T) {
	both(t, "P17.5: a key that is moved", `
		put a=4/0 b=5/1 c=4/2    | true true true
		move a 10                | true
		Act                      | false
		gone                     | [10]
		move c 12                | true
		move b 11                | true
		Act 3                    | false false true
		keys                     | b=5/11
		gone                     | [10 12]
		Removed                  | 2`)
	both(t, "P17.5: to a place where its record is not live", `
		put a=4/0 b=4/1          | true true
		dead 10                  | true
		move a 10                | true
		move b 2                 | true
		Act 3                    | false false true
		keys                     |
		gone                     | [10]
		Removed                  | 2`)
}

// P17.5: whatever others do: what is marked at its act stays, what is put below is not looked at, and no key is looked at twice.
func TestDrawnBeside(t *testing.T) {
	below, above, marked := 0, 0, 0
	for game := range 40 {
		some := dice(170 + game)
		s := made(t)
		drawnIndex(s, &some, 60, 3)
		s.begin(5)
		looked := map[api.Key]bool{}
		var last api.Key
		for act := 0; act < 400; act++ {
			next, ok := s.x.Next(last, act == 0)
			ahead := s.entries()
			if s.Act() != !ok {
				t.Fatalf("P17.5: game %d, act %d: there is another entry: %v", game, act, ok)
			}
			if !ok {
				break
			}
			if last = next.Key; looked[last] {
				t.Fatalf("P17.5: game %d: %s is looked at twice", game, word(last))
			}
			looked[last] = true
			var want []api.Keyed
			for _, at := range ahead {
				if at.Key != last || at.Entry.Mark == 5 {
					want = append(want, at)
				}
			}
			is(t, "P17.5: behind the act", slices.Equal(s.entries(), want), true)
			if next.Entry.Mark == 5 {
				marked++
			}
			for range some.throw(3) {
				k := numbered(some.throw(300))
				switch some.throw(4) {
				case 0:
					s.x.Mark(k, uint32(4+some.throw(3)))
				case 1:
					s.x.Del(k)
				default:
					if s.x.Put(k, entry("4", "none")) && order(k, last) < 0 {
						below++
					} else {
						above++
					}
				}
			}
			if t.Failed() {
				return
			}
		}
	}
	if below < 200 || above < 200 || marked < 300 {
		t.Errorf("P17.5: drawn: %d below, %d above, %d marked", below, above, marked)
	}
}
