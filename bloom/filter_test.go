package bloom_test

import (
	"bytes"
	"fmt"
	"math"
	"testing"

	"gleaner/api"
	"gleaner/bloom"
)

func TestNew(t *testing.T) {
	right := []int{64, 128, 192, 4096, 1048512, api.MaxBits}
	wrong := []int{math.MinInt, -api.MaxBits, -128, -64, -1, 0, 1, 32, 63, 65, 100, 127, 129, api.MaxBits - 1, api.MaxBits - 32, api.MaxBits + 1, api.MaxBits + 64, 1 << 32, 1<<32 + 64, 1 << 62, math.MaxInt}
	for _, hashes := range []int{math.MinInt, -16, -1, 0, 1, 2, 15, 16, 17, 256, 257, 1<<32 + 1, math.MaxInt} {
		fits := 1 <= hashes && hashes <= api.MaxHashes
		for _, bits := range right {
			if !fits {
				wrongShape(t, bits, hashes)
				continue
			}
			f := fresh(t, bits, hashes)
			if b, h := f.Shape(); b != bits || h != hashes || f.Ones() != 0 || bytes.ContainsFunc(f.Bytes()[3:], func(r rune) bool { return r != 0 }) {
				t.Errorf("P7.3: New(%d, %d): Shape %d, %d, Ones %d", bits, hashes, b, h, f.Ones())
			}
		}
		for _, bits := range wrong {
			wrongShape(t, bits, hashes)
		}
	}
}

func wrongShape(t *testing.T, bits, hashes int) {
	t.Helper()
	if f, no := bloom.New(bits, hashes); f != nil || no != api.ErrShape {
		t.Errorf("P7.3: New(%d, %d): %v, %d, want nil, ErrShape", bits, hashes, f, no)
	}
}

func TestTheExample(t *testing.T) {
	f := fresh(t, 64, 2)
	k := api.Key{1}
	if f.Has(k) || !f.Add(k) || f.Ones() != 1 || f.Add(k) || f.Ones() != 1 || !f.Has(k) {
		t.Error("P7.4: the example's key")
	}
	if f.Fill() != 0.015625 || f.Alarm() != 0.000244140625 {
		t.Errorf("P7.5: Fill %v, Alarm %v", f.Fill(), f.Alarm())
	}
	if got := f.Bytes(); !bytes.Equal(got, []byte{2, 1, 0, 2, 0, 0, 0, 0, 0, 0, 0}) {
		t.Errorf("P7.7: % x", got)
	}
}

// edges are numbers at words' edges and near 2^64; 2^64 is no multiple of 192 nor of 320.
var edges = []uint64{
	0, 1, 2, 7, 8, 31, 32, 63, 64, 65, 100, 127, 128, 191, 192, 255, 319, 320, 1<<20 - 1, 1 << 20, 1<<32 - 1, 1 << 32,
	1 << 60, 1<<63 - 1, 1 << 63, 1<<64 - 320, 1<<64 - 192, 1<<64 - 65, 1<<64 - 64, 1<<64 - 63, 1<<64 - 2, 1<<64 - 1,
	0x0102030405060708, 0xf1e2d3c4b5a69788,
}

// Each key alone in a filter: which bits it sets.
func TestPlaces(t *testing.T) {
	one, wraps := 0, 0
	for _, bits := range []int{64, 128, 192, 320} {
		for _, hashes := range []int{1, 2, 3, 16} {
			for _, a := range edges {
				for _, b := range edges {
					k := keyOf(a, b)
					f, m := fresh(t, bits, hashes), newModel(bits, hashes)
					if f.Has(k) || !f.Add(k) || !f.Has(k) {
						t.Errorf("P7.4: %d bits, %d hashes: the key of %d, %d", bits, hashes, a, b)
					}
					m.add(k)
					if !bytes.Equal(f.Bytes(), m.bytes()) {
						t.Errorf("P7.4: %d bits, %d hashes: the key of %d, %d sets % x, want % x", bits, hashes, a, b, f.Bytes()[3:], m.bytes()[3:])
					}
					if f.Add(k) || !f.Has(k) || !bytes.Equal(f.Bytes(), m.bytes()) {
						t.Errorf("P7.4: %d bits, %d hashes: the key of %d, %d added again", bits, hashes, a, b)
					}
					if len(m.set) == 1 {
						one++
					}
					if a+uint64(hashes-1)*b < a {
						wraps++
					}
				}
			}
		}
	}
	if one == 0 || wraps == 0 {
		t.Errorf("the test's own keys: %d of one place, %d that wrap", one, wraps)
	}
}

func TestPlacesOfTheGreatest(t *testing.T) {
	for _, bits := range []int{api.MaxBits, 1048512} {
		for _, hashes := range []int{1, 7, 16} {
			f, m := fresh(t, bits, hashes), newModel(bits, hashes)
			for _, a := range edges {
				for _, b := range edges {
					k := keyOf(a, b)
					if had, add := m.has(k), m.add(k); f.Has(k) != had || f.Add(k) != add || !f.Has(k) {
						t.Errorf("P7.4: %d bits, %d hashes: the key of %d, %d", bits, hashes, a, b)
					}
				}
			}
			m.like(t, fmt.Sprintf("%d bits, %d hashes", bits, hashes), f)
		}
	}
}

// What stands behind a key's first sixteen bytes shows nowhere, and each bit of these does.
func TestWhichBytesOfTheKey(t *testing.T) {
	x := dice(74)
	k := x.key()
	for i := range 8 * len(k) {
		f := fresh(t, api.MaxBits-64, 3)
		f.Add(k)
		other := k
		other[i/8] ^= 1 << (i % 8)
		if f.Has(other) != (i >= 128) || f.Add(other) != (i < 128) {
			t.Errorf("P7.4: a key that is another in bit %d", i)
		}
	}
}

func TestAddAndHas(t *testing.T) {
	x := dice(75)
	yes, no := 0, 0
	for _, bits := range []int{64, 192, 640, 6400} {
		for hashes := 1; hashes <= 16; hashes++ {
			f, m := fresh(t, bits, hashes), newModel(bits, hashes)
			for range 40 {
				k := x.key()
				if want := m.has(k); f.Has(k) != want {
					t.Fatalf("P7.4: Has of a key that was not added is not %v", want)
				}
				want := m.add(k)
				if got := f.Add(k); got != want {
					t.Fatalf("P7.4: Add is %v, want %v", got, want)
				}
				if want {
					yes++
				} else {
					no++
				}
				m.like(t, fmt.Sprintf("%d bits, %d hashes", bits, hashes), f)
			}
		}
	}
	if yes == 0 || no == 0 {
		t.Errorf("the test's own keys: %d set a bit, %d none", yes, no)
	}
}

// A key one bit of which lacks is not had, and is added.
func TestOneBitLacks(t *testing.T) {
	k := keyOf(5, 1)
	for lack := range 16 {
		m := newModel(64, 16)
		for i := range 16 {
			if i != lack {
				m.set[5+i] = true
			}
		}
		f := m.filter(t)
		if f.Has(k) || !f.Add(k) || !f.Has(k) || f.Add(k) || f.Ones() != 16 {
			t.Errorf("P7.4: the place %d lacks", lack)
		}
	}
}

func TestFillAndAlarm(t *testing.T) {
	x := dice(76)
	for _, bits := range []int{64, 192, 1024} {
		for hashes := 1; hashes <= 16; hashes++ {
			m := newModel(bits, hashes)
			f := fresh(t, bits, hashes)
			m.like(t, "an empty filter", f)
			if f.Fill() != 0 || f.Alarm() != 0 {
				t.Errorf("P7.10: an empty filter: Fill %v, Alarm %v", f.Fill(), f.Alarm())
			}
			for _, in := range []int{50, 5, 2} {
				m = some(&x, bits, hashes, in)
				f = m.filter(t)
				m.like(t, "some bits", f)
				if a := f.Alarm(); !(a >= 0 && a <= 1) {
					t.Errorf("P7.10: Alarm is %v", a)
				}
			}
			m = some(&x, bits, hashes, 1)
			f = m.filter(t)
			m.like(t, "a full filter", f)
			if f.Ones() != bits || f.Fill() != 1 || f.Alarm() != 1 {
				t.Errorf("P7.10: a full filter: Ones %d, Fill %v, Alarm %v", f.Ones(), f.Fill(), f.Alarm())
			}
		}
	}
}

// One bit more, from an empty filter to a full one.
func TestBitAfterBit(t *testing.T) {
	for _, bits := range []int{64, 128, 448} {
		for _, hashes := range []int{1, 3, 16} {
			f, m := fresh(t, bits, hashes), newModel(bits, hashes)
			for i := range bits {
				k := at((i * 37) % bits)
				m.add(k)
				if !f.Add(k) {
					t.Errorf("P7.4: the bit %d was set", (i*37)%bits)
				}
				m.like(t, fmt.Sprintf("%d of %d bits, %d hashes", i+1, bits, hashes), f)
			}
			if x := dice(77); f.Add(x.key()) || !f.Has(x.key()) {
				t.Error("P7.4: a full filter takes a key as new")
			}
		}
	}
}

// A zero filter that no call made is as a nil one.
func TestNoFilter(t *testing.T) {
	for what, f := range map[string]*bloom.Filter{"nil": nil, "zero": {}, "new": new(bloom.Filter)} {
		k, some := at(0), fresh(t, 64, 1)
		some.Add(k)
		was := some.Bytes()
		bits, hashes := f.Shape()
		if f.Add(k) || f.Has(k) || f.Has(api.Key{}) || bits != 0 || hashes != 0 || f.Ones() != 0 || len(f.Bytes()) != 0 {
			t.Errorf("P7.5: %s: an answer that is not zero", what)
		}
		if !math.IsNaN(f.Fill()) || !math.IsNaN(f.Alarm()) {
			t.Errorf("P7.5: %s: Fill %v, Alarm %v", what, f.Fill(), f.Alarm())
		}
		for _, no := range []api.Errno{f.Join(some), f.Meet(some), some.Join(f), some.Meet(f), f.Join(f), f.Meet(f), f.Join(nil), f.Meet(nil), f.Join(new(bloom.Filter)), f.Meet(new(bloom.Filter))} {
			if no != api.ErrNil {
				t.Errorf("P7.6: %s: %d, want ErrNil", what, no)
			}
		}
		if !bytes.Equal(some.Bytes(), was) || f.Has(k) {
			t.Errorf("P7.6: %s: a call that was refused changed something", what)
		}
	}
}

func TestJoinAndMeet(t *testing.T) {
	x := dice(78)
	for _, bits := range []int{64, 128, 320, 4096} {
		for _, hashes := range []int{1, 5, 16} {
			for _, chances := range [][2]int{{2, 2}, {5, 3}, {50, 2}, {1, 4}, {4, 1}, {1, 1}, {1000000, 2}, {2, 1000000}} {
				a, b := some(&x, bits, hashes, chances[0]), some(&x, bits, hashes, chances[1])
				either, both := newModel(bits, hashes), newModel(bits, hashes)
				for p := range bits {
					if a.set[p] || b.set[p] {
						either.set[p] = true
					}
					if a.set[p] && b.set[p] {
						both.set[p] = true
					}
				}
				f, g := a.filter(t), b.filter(t)
				if no := f.Join(g); no != api.OK {
					t.Errorf("P7.6: Join: %d", no)
				}
				either.like(t, "joined", f)
				b.like(t, "what was joined to it", g)
				f = a.filter(t)
				if no := f.Meet(g); no != api.OK {
					t.Errorf("P7.6: Meet: %d", no)
				}
				both.like(t, "met", f)
				b.like(t, "what it met", g)
				if f.Join(f) != api.OK || f.Meet(f) != api.OK {
					t.Error("P7.6: a filter with itself is refused")
				}
				both.like(t, "joined with itself, and met", f)
			}
		}
	}
}

func TestJoinAndMeetOfUnlikeShapes(t *testing.T) {
	x := dice(79)
	shapes := [][2]int{{64, 1}, {64, 2}, {64, 16}, {128, 1}, {128, 2}, {192, 1}, {4096, 16}, {4032, 16}}
	for _, s := range shapes {
		for _, o := range shapes {
			if s == o {
				continue
			}
			a, b := some(&x, s[0], s[1], 2), some(&x, o[0], o[1], 2)
			f, g := a.filter(t), b.filter(t)
			if no := f.Join(g); no != api.ErrShape {
				t.Errorf("P7.6: Join of %v with %v: %d", s, o, no)
			}
			if no := f.Meet(g); no != api.ErrShape {
				t.Errorf("P7.6: Meet of %v with %v: %d", s, o, no)
			}
			a.like(t, "behind a refusal", f)
			b.like(t, "handed in to a refusal", g)
		}
	}
}

// What becomes of one of them later is not seen in the other.
func TestJoinAndMeetShareNothing(t *testing.T) {
	for what, lay := range map[string]func(f, g *bloom.Filter) api.Errno{"Join": (*bloom.Filter).Join, "Meet": (*bloom.Filter).Meet} {
		f, g := fresh(t, 128, 1), fresh(t, 128, 1)
		f.Add(at(70))
		g.Add(at(70))
		if lay(f, g) != api.OK || !f.Add(at(71)) || g.Has(at(71)) || !g.Add(at(72)) || f.Has(at(72)) {
			t.Errorf("P7.6: %s: the two share bits", what)
		}
	}
}

func TestNeverMisses(t *testing.T) {
	x := dice(80)
	for round := range 150 {
		bits, hashes := 64*(1+x.throw(40)), 1+x.throw(16)
		f, g := fresh(t, bits, hashes), fresh(t, bits, hashes)
		one, two, both := x.keys(x.throw(30)), x.keys(x.throw(30)), x.keys(x.throw(30))
		addAll(f, one, both)
		addAll(g, both, two)
		all := func(what string, f *bloom.Filter, lists ...[]api.Key) {
			t.Helper()
			for _, list := range lists {
				for _, k := range list {
					if !f.Has(k) || f.Add(k) {
						t.Fatalf("P7.9: round %d: a key is missed behind %s", round, what)
					}
				}
			}
		}
		all("Add", f, one, both)
		joined := opened(t, f.Bytes())
		all("Bytes and Open", joined, one, both)
		joined.Join(opened(t, g.Bytes()))
		all("Join", joined, one, two, both)
		met := opened(t, f.Bytes())
		met.Meet(g)
		all("Meet", met, both)
		joined.Meet(g)
		all("Join and Meet", opened(t, joined.Bytes()), both, two)
	}
}

func addAll(f *bloom.Filter, lists ...[]api.Key) {
	for _, list := range lists {
		for _, k := range list {
			f.Add(k)
		}
	}
}

// The order in which keys are added shows nowhere.
func TestAnyOrder(t *testing.T) {
	x := dice(81)
	for range 100 {
		bits, hashes := 64*(1+x.throw(20)), 1+x.throw(16)
		keys := x.keys(1 + x.throw(40))
		f := fresh(t, bits, hashes)
		addAll(f, keys)
		for range 3 {
			for i := range keys {
				j := i + x.throw(len(keys)-i)
				keys[i], keys[j] = keys[j], keys[i]
			}
			g := fresh(t, bits, hashes)
			addAll(g, keys, keys[:x.throw(len(keys))])
			if !bytes.Equal(f.Bytes(), g.Bytes()) || f.Ones() != g.Ones() || !alike(f.Fill(), g.Fill()) || !alike(f.Alarm(), g.Alarm()) {
				t.Fatal("P7.9: another order of the adds is seen")
			}
		}
	}
}

// Asking changes nothing.
func TestAskingChangesNothing(t *testing.T) {
	x := dice(82)
	m := some(&x, 640, 4, 3)
	f := m.filter(t)
	for range 200 {
		f.Has(x.key())
	}
	m.like(t, "asked", f)
	m.like(t, "asked again", f)
}

// Two filters have nothing to do with one another.
func TestFiltersAreApart(t *testing.T) {
	f, g := fresh(t, 128, 2), fresh(t, 128, 2)
	f.Add(at(3))
	if g.Has(at(3)) || g.Ones() != 0 || fresh(t, 128, 2).Ones() != 0 {
		t.Error("P7.3: a key that is added to one filter is in another")
	}
}
