package gear_test

import (
	"math"
	"math/big"
	"slices"
	"testing"

	"gleaner/api"
	"gleaner/gear"
)

// f is a number of float64's 53 bits: what is reckoned into it is rounded once, to the nearest.
func f() *big.Float { return new(big.Float).SetPrec(53) }

// spread is P5.6's reckoning, each operation by itself.
func spread(lengths []int) api.Spread {
	if len(lengths) == 0 {
		return api.Spread{}
	}
	m, s := f(), f()
	for i, n := range lengths {
		x := f().SetInt64(int64(n))
		d := f().Sub(x, m)
		m = f().Add(m, f().Quo(d, f().SetInt64(int64(i+1))))
		s = f().Add(s, f().Mul(d, f().Sub(x, m)))
	}
	count := len(lengths)
	wide := new(big.Float).SetPrec(300).Sqrt(f().Quo(s, f().SetInt64(int64(count))))
	mean, _ := m.Float64()
	dev, _ := wide.Float64()
	return api.Spread{Count: count, Least: slices.Min(lengths), Greatest: slices.Max(lengths), Mean: mean, Dev: dev}
}

// alike tells whether two are the same, the floats bit by bit.
func alike(a, b api.Spread) bool {
	bits := math.Float64bits
	return a.Count == b.Count && a.Least == b.Least && a.Greatest == b.Greatest && bits(a.Mean) == bits(b.Mean) && bits(a.Dev) == bits(b.Dev)
}

func TestSpreadOfTheExamples(t *testing.T) {
	for _, c := range []struct {
		lengths []int
		want    api.Spread
	}{
		{nil, api.Spread{}}, {[]int{}, api.Spread{}},
		{[]int{1, 2, 4}, api.Spread{Count: 3, Least: 1, Greatest: 4, Mean: 2.3333333333333335, Dev: 1.247219128924647}},
		{[]int{-1, 1}, api.Spread{Count: 2, Least: -1, Greatest: 1, Mean: 0, Dev: 1}},
		{[]int{7}, api.Spread{Count: 1, Least: 7, Greatest: 7, Mean: 7, Dev: 0}},
		{[]int{0}, api.Spread{Count: 1}},
		{[]int{-7}, api.Spread{Count: 1, Least: -7, Greatest: -7, Mean: -7, Dev: 0}},
		{[]int{5, 5, 5, 5}, api.Spread{Count: 4, Least: 5, Greatest: 5, Mean: 5, Dev: 0}},
		{[]int{3, 5}, api.Spread{Count: 2, Least: 3, Greatest: 5, Mean: 4, Dev: 1}},
		{[]int{math.MinInt}, api.Spread{Count: 1, Least: math.MinInt, Greatest: math.MinInt, Mean: -(1 << 63), Dev: 0}},
		{[]int{math.MaxInt}, api.Spread{Count: 1, Least: math.MaxInt, Greatest: math.MaxInt, Mean: 1 << 63, Dev: 0}},
		{[]int{math.MinInt, math.MaxInt}, api.Spread{Count: 2, Least: math.MinInt, Greatest: math.MaxInt, Mean: 0, Dev: 1 << 63}},
	} {
		if got := gear.Spread(c.lengths); !alike(got, c.want) {
			t.Errorf("P5.6: Spread(%v) = %v, want %v", c.lengths, got, c.want)
		}
	}
}

func TestSpreadBitByBit(t *testing.T) {
	x := dice(57)
	widths := []uint{0, 1, 3, 8, 13, 31, 50, 53, 54, 60, 63}
	for round := range 3000 {
		list := make([]int, x.throw(40))
		for i := range list {
			v := uint64(x.throw(1<<31))<<33 ^ uint64(x.throw(1<<31))<<16 ^ uint64(x.throw(1<<31))
			list[i] = int(v >> (63 - widths[round%len(widths)]) >> 1)
			if round%2 == 1 && x.throw(2) == 0 {
				list[i] = -list[i]
			}
		}
		was := append(slices.Clone(list), 11, 12)
		list = append(list, 11, 12)[:len(list)]
		if got, want := gear.Spread(list), spread(list); !alike(got, want) {
			t.Fatalf("P5.6: Spread(%v) = %v, want %v", list, got, want)
		}
		if !slices.Equal(list[:len(list)+2], was) {
			t.Fatalf("P5.9: Spread changed what was handed in")
		}
	}
}

func TestSpreadOfManyPieces(t *testing.T) {
	for _, r := range rules {
		for name, data := range contents(20000) {
			list, _ := gear.Cut(r, data)
			if got, want := gear.Spread(list), spread(list); !alike(got, want) {
				t.Errorf("P5.6: %v, %s: Spread = %v, want %v", r, name, got, want)
			}
		}
	}
}

// The order of the lengths tells in the last bits: what is reckoned is reckoned from the first to the last.
func TestSpreadGoesFromTheFirstOn(t *testing.T) {
	x := dice(58)
	unlike := 0
	for range 50 {
		list := make([]int, 30)
		for i := range list {
			list[i] = x.throw(100000)
		}
		back := slices.Clone(list)
		slices.Reverse(back)
		a, b := gear.Spread(list), gear.Spread(back)
		if !alike(a, spread(list)) || !alike(b, spread(back)) {
			t.Errorf("P5.6: Spread of %v, there and back: %v, %v", list, a, b)
		}
		if !alike(a, b) {
			unlike++
		}
	}
	if unlike == 0 {
		t.Error("the test's own lengths do not tell one order from another")
	}
}
