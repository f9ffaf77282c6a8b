package table_test

import (
	"runtime"
	"slices"
	"strconv"
	"testing"
	"weak"

	"gleaner/table"
)

// P11.2: each Put and each Del begins with a step, whatever it answers; nothing else does.
func TestStepAlways(t *testing.T) {
	both(t, "P11.2", itself, `
		Put 0..48           | -
		books               | 49 128 0 64
		Put 200=a           | -
		books               | 50 128 0 56
		Put 200=b           | 'a'
		books               | 50 128 0 48
		Put 40=c            | '40'
		books               | 50 128 0 40
		Del 200             | 'b'
		books               | 49 128 1 32
		Del 41              | '41'
		books               | 48 128 1 24
		Del 999             | -
		books               | 48 128 1 16
		Get 3 48 999        | '3' '48' -
		Probes 3 48 999     | 1 2 12
		All                 | 48 0 1 2 3 4 5 6 7 8 9 10 11 12 13 14 15 16 17 18 19 20 21 22 23 24 25 26 27 28 29 30 31 32 33 34 35 36 37 38 39 40=c 42 43 44 45 46 47
		books               | 48 128 1 16
		Del 999             | -
		books               | 48 128 1 8
		Put 3=d             | '3'
		books               | 48 128 1 0
		Del 999             | -
		Put 3=e             | 'd'
		books               | 48 128 1 0`)
}

// P11.2: the changes behind the one at which the table began to move may be of any kind.
func TestStepFirst(t *testing.T) {
	for _, lines := range []string{
		"Put 50=x | -   \n books | 14 32 0 8 \n Put 51=x | -   \n books | 15 32 0 0",
		"Put 50=x | -   \n books | 14 32 0 8 \n Put 50=y | 'x' \n books | 14 32 0 0",
		"Put 50=x | -   \n books | 14 32 0 8 \n Del 50   | 'x' \n books | 13 32 1 0",
		"Put 3=x  | '3' \n books | 13 32 0 8 \n Put 3=y  | 'x' \n books | 13 32 0 0",
		"Put 9=x  | '9' \n books | 13 32 0 8 \n Del 9    | 'x' \n books | 12 32 1 0",
		"Del 3    | '3' \n books | 12 32 1 8 \n Del 9    | '9' \n books | 11 32 2 0",
		"Del 9    | '9' \n books | 12 32 0 8 \n Put 9=x  | -   \n books | 13 32 0 0",
		"Del 50   | -   \n books | 13 32 0 8 \n Del 50   | -   \n books | 13 32 0 0",
	} {
		both(t, "P11.2: behind the first two lines", itself, "Put 0..12 | - \n books | 13 32 0 16 \n"+lines)
	}
}

// P11.2: a step goes through eight slots, rising; what they had lies in the younger array, and what the others had does not.
func TestStepSlots(t *testing.T) {
	x := made(t, itself)
	plays(t, "P11.2", x, `Put 0..48 | -`)
	for step := range 9 {
		for k := range 49 {
			want := 2 // an empty slot of the younger array, and its own of the elder one
			if k < 8*step {
				want = 1
			}
			is(t, "P11.2: Probes("+strconv.Itoa(k)+") behind step "+strconv.Itoa(step), x.Probes(k), want)
		}
		is(t, "P11.2: Left behind step "+strconv.Itoa(step), x.Left(), 64-8*step)
		call(x, "Del 999")
	}
}

// P11.2: the slots that had a pair are tombs of the elder array, those that had none stay empty; behind its end the elder array is looked at no more.
func TestStepElder(t *testing.T) {
	both(t, "P11.2: tombs", itself, `
		Put 0..48           | -
		Probes 131          | 48
		Del 999             | -
		Probes 131          | 53
		Del 999             | -
		Probes 131          | 61
		Del 999 998 997 996 | -
		books               | 49 128 0 16
		Probes 131          | 93
		Del 999             | -
		Probes 131          | 94
		Del 999             | -
		books               | 49 128 0 0
		Probes 131          | 47`)
	both(t, "P11.2: an empty one", itself, `
		Put 0 1 3..13       | -
		books               | 13 32 0 16
		Probes 2 17 18 33   | 2 3 2 3
		Del 99              | -
		books               | 13 32 0 8
		Probes 2 17 18 33   | 2 3 2 4
		Del 99              | -
		books               | 13 32 0 0
		Probes 2 17 18 33   | 1 1 1 2`)
	both(t, "P11.2: a tomb on the way to a pair that has not been moved", itself, `
		Put 7 0..6 23 9..12 | -
		books               | 13 32 0 16
		Probes 23           | 3
		Del 99              | -
		books               | 13 32 0 8
		Get 23              | '23'
		Probes 23 39        | 3 9
		Del 23              | '23'
		books               | 12 32 1 0`)
}

// P11.2: a moved pair is laid as any other: behind full slots, into the first tomb.
func TestStepLays(t *testing.T) {
	both(t, "P11.2: a tomb", itself, `
		Put 0..24           | -
		books               | 25 64 0 32
		Put 80=a            | -
		books               | 26 64 0 24
		Del 80              | 'a'
		books               | 25 64 1 16
		Probes 16 17        | 3 2
		Del 999             | -
		books               | 25 64 0 8
		Probes 16 17        | 1 1`)
	both(t, "P11.2: full ones", itself, `
		Put 0..24           | -
		Put 80=a 81=b       | -
		Del 80              | 'a'
		books               | 26 64 1 8
		All                 | 24 0 1 2 3 4 5 6 7 8 9 10 11 12 13 14 15 81=b 16 17 18 19 20 21 22 23
		Probes 15..24       | 1 3 3 3 3 3 3 3 3 4
		Del 999             | -
		books               | 26 64 1 0
		Probes 15..24       | 1 3 3 3 3 3 3 3 3 3`)
	both(t, "P11.2: a full one, then a tomb, then a full one", itself, `
		Put 0..48           | -
		Put 168=a 169=b     | -
		Put 170=c           | -
		Del 169             | 'b'
		books               | 51 128 1 32
		Del 999             | -
		books               | 51 128 1 24
		Probes 40 41 42     | 5 4 3
		Del 999             | -
		books               | 51 128 0 16
		Probes 40..48       | 2 3 3 3 3 3 3 3 4
		All                 | 48 0 1 2 3 4 5 6 7 8 9 10 11 12 13 14 15 16 17 18 19 20 21 22 23 24 25 26 27 28 29 30 31 32 33 34 35 36 37 38 39 168=a 40 170=c 41 42 43 44 45 46 47`)
	both(t, "P11.2: round the end", func(k int) uint64 { return 7 }, `
		Put 0..6            | -
		books               | 7 16 0 8
		All                 | 1 2 3 4 5 6 0
		Put 7               | -
		All                 | 1 2 3 4 5 6 0 7
		Probes 1 2 6 0 7 8  | 1 2 6 7 8 9`)
}

// thing is a key or a value whose going can be seen.
type thing struct {
	n     int
	words [8]*int
}

// filled is a table that has begun to move, and its 49 keys and values, which nobody else has.
func filled() (x *table.Table[*thing, *thing], k, v []weak.Pointer[thing]) {
	x = table.New[*thing, *thing](func(k *thing) uint64 { return uint64(k.n) })
	for n := range 49 {
		key, value := &thing{n: n}, &thing{n: n}
		k, v = append(k, weak.Make(key)), append(v, weak.Make(value))
		x.Put(key, value)
	}
	return x, k, v
}

// let does something to such a table, and holds what is kept then against what is to be gone.
func let(t *testing.T, what string, keys, values []int, do func(x *table.Table[*thing, *thing], k func(int) *thing)) {
	t.Helper()
	x, k, v := filled()
	is(t, what, books[*thing, *thing](x), "49 128 0 64")
	do(x, func(n int) *thing { return k[n].Value() })
	runtime.GC()
	for n := range 49 {
		if kept := k[n].Value() != nil; kept == slices.Contains(keys, n) {
			t.Errorf("%s: the key %d: kept: %v", what, n, kept)
		}
		if kept := v[n].Value() != nil; kept == slices.Contains(values, n) {
			t.Errorf("%s: the value of %d: kept: %v", what, n, kept)
		}
	}
	runtime.KeepAlive(x)
}

// P0.1: nothing is kept of what was taken out, from either array, nor of what was moved and taken out then, nor of a value that another one was put for.
func TestLetsGo(t *testing.T) {
	gone := []int{0, 2, 3}
	let(t, "taken out of the younger array", gone, gone, func(x *table.Table[*thing, *thing], k func(int) *thing) {
		for _, n := range gone {
			x.Del(k(n))
		}
		is(t, "Left", x.Left(), 40)
	})
	late := []int{40, 48, 32}
	let(t, "taken out of the elder array", late, late, func(x *table.Table[*thing, *thing], k func(int) *thing) {
		for _, n := range late {
			x.Del(k(n))
		}
		is(t, "Left", x.Left(), 40)
	})
	let(t, "put anew", nil, []int{0, 3, 40, 48}, func(x *table.Table[*thing, *thing], k func(int) *thing) {
		for _, n := range []int{0, 3, 40, 48} {
			x.Put(k(n), nil)
		}
		is(t, "Left", x.Left(), 32)
	})
}
