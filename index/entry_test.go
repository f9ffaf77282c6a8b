package index_test

import (
	"testing"

	"gleaner/api"
	"gleaner/index"
)

// The chapter's examples.
func TestChapter(t *testing.T) {
	both(t, "the examples", `
		Put 20=1.2/20/1     | true
		Put 20=3.4/20/2     | false
		Get 20              | 1.2/20/1
		Mark 20 1           | false
		Mark 20 2           | true
		Mark 10 2           | false
		Move 20 3.4 1.2     | false
		Move 20 1.2 3.4     | true
		Get 20              | 3.4/20/2
		Put 10=0.0/0/0 30=0.0/0/0 | true true
		Next 10             | 20=3.4/20/2
		Next 30             | -
		Next any 30         | 10=0.0/0/0
		books               | 3 0:3
		Del 20              | 3.4/20/2
		Del 20              | -
		books               | 2 0:2`)
	is(t, "P12.6: a key that begins with 3f", index.Shard(named("3f")), 15)
}

// P12.1: a new index has nothing; Get of a key that is there, that is not, that was taken out.
func TestGet(t *testing.T) {
	both(t, "P12.1: a new one", `
		Get 00 01 ff top 00-01 | - - - - -
		books               | 0
		All                 |
		steps               |`)
	both(t, "P12.1", `
		Put 01=1.2/3/4      | true
		Get 01              | 1.2/3/4
		Get 11 00 02 01-01 0100000001 | - - - - -
		Del 01              | 1.2/3/4
		Get 01              | -
		Put 00=0.0/0/0      | true
		Get 00              | 0.0/0/0
		Get 01 10           | - -`)
	both(t, "P12.1: numbers that no record has", `
		Put ff=-1.-2/-3/4294967295 | true
		Put 0f=9223372036854775807.-9223372036854775808/9223372036854775807/0 | true
		Get ff              | -1.-2/-3/4294967295
		Get 0f              | 9223372036854775807.-9223372036854775808/9223372036854775807/0`)
}

// P12.1: keys that are unlike in one bit, whichever, are unlike keys.
func TestBits(t *testing.T) {
	x := made(t)
	of := func(bit int) api.Key {
		k := named("5a5a-a5a5")
		if bit < 256 {
			k[bit/8] ^= 1 << (bit % 8)
		}
		return k
	}
	for bit := range 257 {
		is(t, "P12.1: Get ahead of it", answer(x.Get(of(bit))), "-")
		is(t, "P12.2: Put", x.Put(of(bit), api.Entry{Size: bit}), true)
	}
	is(t, "P12.5: Len", x.Len(), 257)
	for bit := range 257 {
		is(t, "P12.1: Get", answer(x.Get(of(bit))), told(api.Entry{Size: bit}))
	}
}

// P12.2: what is there stays, whatever else is put; Del takes out once; behind it the key may be put again.
func TestPutDel(t *testing.T) {
	both(t, "P12.2", `
		Put 41=1.2/3/4      | true
		Put 41=1.2/3/4      | false
		Put 41=5.6/7/8      | false
		Put 41=0.0/0/0      | false
		Get 41              | 1.2/3/4
		books               | 1 1:1
		Put 51=5.6/7/8      | true
		Get 41 51           | 1.2/3/4 5.6/7/8
		Del 41              | 1.2/3/4
		Del 41              | -
		books               | 1 1:1
		Get 41 51           | - 5.6/7/8
		Put 41=9.9/9/9      | true
		Get 41 51           | 9.9/9/9 5.6/7/8
		Put 41=1.2/3/4      | false
		Del 51 41 51        | 5.6/7/8 9.9/9/9 -
		books               | 0
		All                 |`)
	both(t, "P12.2: a zero entry is one", `
		Put 00=0.0/0/0      | true
		Put 00=1.1/1/1      | false
		books               | 1 0:1
		Del 00              | 0.0/0/0
		Del 00              | -
		Put 00=1.1/1/1      | true
		Get 00              | 1.1/1/1`)
	both(t, "P12.2: Del of what was never there", `
		Del 00 ff           | - -
		Put 10=1.1/1/1      | true
		Del 00 20 10-01     | - - -
		books               | 1 0:1`)
}

// P12.3: Mark lays an epoch into an entry that has another one, and changes nothing else.
func TestMark(t *testing.T) {
	both(t, "P12.3: Mark", `
		Mark 41 1           | false
		Mark 41 0           | false
		books               | 0
		Get 41              | -
		Put 41=1.2/3/4 51=5.6/7/8 42=1.2/3/4 | true true true
		Mark 41 4           | false
		Get 41              | 1.2/3/4
		Mark 41 5           | true
		Get 41 51 42        | 1.2/3/5 5.6/7/8 1.2/3/4
		Mark 41 5           | false
		Mark 41 4           | true
		Mark 41 0           | true
		Mark 41 0           | false
		Get 41              | 1.2/3/0
		Mark 41 4294967295  | true
		Mark 41 4294967295  | false
		Get 41 51 42        | 1.2/3/4294967295 5.6/7/8 1.2/3/4
		books               | 3 1:2 2:1
		Del 41              | 1.2/3/4294967295
		Mark 41 4           | false
		Get 41              | -
		books               | 2 1:1 2:1`)
}

// P12.3: Move lays another place into an entry that has this one, and changes nothing else.
func TestMove(t *testing.T) {
	both(t, "P12.3: Move", `
		Move 41 0.0 0.0     | false
		Move 41 0.0 1.2     | false
		books               | 0
		Get 41              | -
		Put 41=1.2/3/4 51=1.2/7/8 42=1.2/3/4 | true true true
		Move 41 1.3 5.6     | false
		Move 41 0.2 5.6     | false
		Move 41 2.1 1.2     | false
		Move 41 5.6 5.6     | false
		Get 41              | 1.2/3/4
		Move 41 1.2 1.2     | true
		Get 41              | 1.2/3/4
		Move 41 1.2 5.6     | true
		Get 41 51 42        | 5.6/3/4 1.2/7/8 1.2/3/4
		Move 41 1.2 5.6     | false
		Move 41 5.6 5.-6    | true
		Move 41 5.6 0.0     | false
		Move 41 5.-6 -1.0   | true
		Move 41 -1.0 0.0    | true
		Move 41 0.0 0.0     | true
		Get 41 51 42        | 0.0/3/4 1.2/7/8 1.2/3/4
		books               | 3 1:2 2:1
		Del 41              | 0.0/3/4
		Move 41 0.0 1.1     | false
		Get 41              | -
		books               | 2 1:1 2:1`)
	both(t, "P12.3: one behind the other", `
		Put 07=1.2/3/4      | true
		Mark 07 9           | true
		Move 07 1.2 8.8     | true
		Mark 07 4           | true
		Get 07              | 8.8/3/4`)
}

// P12.2: two indexes go their ways apart.
func TestApart(t *testing.T) {
	x, y := made(t), made(t)
	plays(t, "one", x, `
		Put 01=1.1/1/1 02=2.2/2/2 | true true`)
	plays(t, "the other", y, `
		books               | 0
		Get 01 02           | - -
		Put 01=3.3/3/3      | true
		Del 02              | -
		Mark 01 9           | true`)
	plays(t, "the one again", x, `
		All                 | 01=1.1/1/1 02=2.2/2/2
		books               | 2 1:1 2:1`)
}

// nothing holds every call's answer against what a nil index's is to be.
func nothing(t *testing.T, what string, x *index.Index) {
	t.Helper()
	for range 9 {
		plays(t, what, x, `
			Put 00=0.0/0/0 01=1.1/1/1 10=2.2/2/2 top=3.3/3/3 | false false false false
			Get 00 01 10 top    | - - - -
			Mark 00 0           | false
			Mark 01 5           | false
			Move 00 0.0 0.0     | false
			Move 01 1.1 2.2     | false
			Next 00             | -
			Next any 00         | -
			Next any top        | -
			steps               |
			books               | 0
			Del 00 01 10 top    | - - - -
			All                 |`)
	}
	walk := x.All()
	if walk == nil {
		t.Fatalf("%s: no walk", what)
	}
	for range 2 {
		for k, e := range walk {
			t.Errorf("%s: All tells %s=%s", what, digits(k), told(e))
		}
	}
}

// Every call on a nil index; P0.1: a zero one is as a nil one.
func TestNil(t *testing.T) {
	nothing(t, "a nil index", nil)
	nothing(t, "P0.1: a zero index", &index.Index{})
}
