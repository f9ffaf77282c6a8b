package bloom_test

import (
	"math"
	"slices"
	"testing"

	"gleaner/api"
	"gleaner/bloom"
)

func TestRateOfTheExamples(t *testing.T) {
	for _, c := range []struct {
		bits, hashes, added int
		want                float64
	}{
		{1, 1, 1, 1}, {64, 1, 0, 0}, {2, 1, 1, 0.5}, {2, 2, 1, 0.5625},
		{1, 1, 0, 0}, {1, 16, 0, 0}, {1, 16, 1, 1}, {2, 1, 2, 0.75}, {4, 1, 1, 0.25}, {4, 2, 1, 0.19140625},
		{api.MaxBits, 1, 1, 1.0 / (1 << 20)}, {api.MaxBits, 16, 0, 0},
	} {
		if got := bloom.Rate(c.bits, c.hashes, c.added); !alike(got, c.want) {
			t.Errorf("P7.1: Rate(%d, %d, %d) = %v, want %v", c.bits, c.hashes, c.added, got, c.want)
		}
	}
}

func TestRateWhereItIsNone(t *testing.T) {
	wrong := struct{ bits, hashes, added []int }{
		[]int{math.MinInt, -64, -1, 0, api.MaxBits + 1, api.MaxBits + 64, 1 << 32, math.MaxInt},
		[]int{math.MinInt, -1, 0, 17, 1<<32 + 1, math.MaxInt},
		[]int{math.MinInt, -1 << 32, -1, api.MaxAdded + 1, 1 << 60, math.MaxInt},
	}
	right := struct{ bits, hashes, added []int }{
		[]int{1, 2, 64, api.MaxBits - 1, api.MaxBits},
		[]int{1, 2, 15, 16},
		[]int{0, 1, 1000, api.MaxAdded - 1, api.MaxAdded},
	}
	none := func(bits, hashes, added int) {
		t.Helper()
		if got := bloom.Rate(bits, hashes, added); !math.IsNaN(got) {
			t.Errorf("P7.1: Rate(%d, %d, %d) = %v, want NaN", bits, hashes, added, got)
		}
	}
	for _, b := range right.bits {
		for _, h := range right.hashes {
			for _, n := range wrong.added {
				none(b, h, n)
			}
			for _, n := range right.added {
				if got := bloom.Rate(b, h, n); math.IsNaN(got) {
					t.Errorf("P7.1: Rate(%d, %d, %d) is NaN", b, h, n)
				}
			}
		}
	}
	for _, n := range right.added {
		for _, b := range right.bits {
			for _, h := range wrong.hashes {
				none(b, h, n)
			}
		}
		for _, b := range wrong.bits {
			for _, h := range append(right.hashes, wrong.hashes...) {
				none(b, h, n)
			}
		}
	}
}

// turned is x to the n by another order of products, from the highest binary digit on.
func turned(x float64, n int) float64 {
	z := 1.0
	for i := 62; i >= 0; i-- {
		z *= z
		if n>>i%2 == 1 {
			z *= x
		}
	}
	return z
}

func TestRateBitByBit(t *testing.T) {
	unlike := 0
	hold := func(bits, hashes, added int) {
		t.Helper()
		got, want := bloom.Rate(bits, hashes, added), rate(bits, hashes, added)
		if !alike(got, want) {
			t.Errorf("P7.1: Rate(%d, %d, %d) = %v, want %v", bits, hashes, added, got, want)
		}
		if turned(rest(turned(rest(quotient(1, bits)), hashes*added)), hashes) != want {
			unlike++
		}
	}
	for _, bits := range []int{1, 2, 3, 63, 64, 65, 100, 1000, 4096, 65535, 1 << 19, api.MaxBits - 1, api.MaxBits} {
		for hashes := 1; hashes <= 16; hashes++ {
			for _, added := range []int{0, 1, 2, 3, 7, 10, 100, 12345, 1 << 16, 3 << 20, 1 << 31, api.MaxAdded - 1, api.MaxAdded} {
				hold(bits, hashes, added)
			}
		}
	}
	x := dice(71)
	for range 4000 {
		bits := 1 + x.throw(api.MaxBits)>>x.throw(20)
		hold(bits, 1+x.throw(16), x.throw(1+bits*x.throw(40)))
	}
	if unlike == 0 {
		t.Error("the test's own numbers do not tell one order of operations from another")
	}
}

// The numbers between may be so small that float64 has but some of their bits left, or none.
func TestRateOfTheSmallest(t *testing.T) {
	small, gone := 0, 0
	for _, bits := range []int{2, 3, 64, 1000, api.MaxBits} {
		for added := 700 * bits; added <= 760*bits && added <= api.MaxAdded; added += max(1, bits/3) {
			q := power(rest(quotient(1, bits)), added)
			if q == 0 {
				gone++
			} else if q < 0x1p-1022 {
				small++
			}
			if got, want := bloom.Rate(bits, 1, added), rate(bits, 1, added); !alike(got, want) {
				t.Errorf("P7.1: Rate(%d, 1, %d) = %v, want %v", bits, added, got, want)
			}
		}
	}
	if small == 0 || gone == 0 {
		t.Errorf("the test's own numbers: %d are small, %d are gone", small, gone)
	}
}

// hashes · added, cut to 32 bits, would be 0 or a small number.
func TestRateWhereTheProductIsGreat(t *testing.T) {
	for _, c := range [][3]int{
		{api.MaxBits, 16, api.MaxAdded}, {api.MaxBits, 1, api.MaxAdded}, {api.MaxBits, 16, 1 << 28}, {api.MaxBits, 16, 1<<28 + 1},
		{api.MaxBits, 16, 1 << 27}, {api.MaxBits, 2, 1 << 31}, {api.MaxBits, 3, 1431655766}, {64, 16, api.MaxAdded}, {1, 16, api.MaxAdded},
	} {
		if got := bloom.Rate(c[0], c[1], c[2]); got != 1 {
			t.Errorf("P7.1: Rate(%d, %d, %d) = %v, want 1", c[0], c[1], c[2], got)
		}
	}
}

// rates is Rate of every filter that may be, by its bits and then its hashes.
func rates(added int) []float64 {
	out := make([]float64, 0, api.MaxBits/64*16)
	for bits := 64; bits <= api.MaxBits; bits += 64 {
		for hashes := 1; hashes <= 16; hashes++ {
			out = append(out, bloom.Rate(bits, hashes, added))
		}
	}
	return out
}

// Every filter that may be is looked at, from the least on.
func TestPlanIsTheLeast(t *testing.T) {
	x := dice(72)
	tried := map[api.Errno]int{}
	for _, added := range []int{0, 1, 2, 9, 100, 1000, 77777, 200000, 1 << 20, 9 << 20, 38 << 20, 40 << 20, api.MaxAdded - 1, api.MaxAdded} {
		all := rates(added)
		for i, r := range all {
			if !(r >= 0 && r <= 1) || i >= 16 && r > all[i-16] {
				t.Fatalf("P7.10: Rate of %d bits, %d hashes, %d added is %v", 64*(i/16+1), i%16+1, added, r)
			}
		}
		wanted := []float64{
			math.SmallestNonzeroFloat64, 1e-300, 1e-77, 1e-70, 1e-30, 1e-9, 1e-4, 0.01, 0.1, 0.25, 0.5, 0.75, 0.999,
			1 - 1e-9, math.Nextafter(1, 0), slices.Min(all), math.Nextafter(slices.Min(all), 0),
		}
		for range 60 {
			r := all[x.throw(len(all))]
			wanted = append(wanted, r, math.Nextafter(r, 0), math.Nextafter(r, 1))
		}
		for _, r := range wanted {
			if !(r > 0 && r < 1) {
				continue
			}
			b, h, want := 0, 0, api.ErrShape
			if i := slices.IndexFunc(all, func(got float64) bool { return got <= r }); i >= 0 {
				b, h, want = 64*(i/16+1), i%16+1, api.OK
			}
			tried[want]++
			if bits, hashes, no := bloom.Plan(added, r); bits != b || hashes != h || no != want {
				t.Errorf("P7.2: Plan(%d, %v): %d, %d, %d, want %d, %d, %d", added, r, bits, hashes, no, b, h, want)
			}
		}
	}
	if tried[api.OK] < 500 || tried[api.ErrShape] < 50 {
		t.Errorf("the test's own rates: %v", tried)
	}
}

func TestPlanAtTheBounds(t *testing.T) {
	nan, inf, least, most := math.NaN(), math.Inf(1), math.SmallestNonzeroFloat64, math.Nextafter(1, 0)
	for _, c := range []struct {
		added        int
		rate         float64
		bits, hashes int
		no           api.Errno
	}{
		{0, 0.5, 64, 1, api.OK}, {0, least, 64, 1, api.OK}, {0, most, 64, 1, api.OK},
		{1, 1.0 / 64, 64, 1, api.OK}, {1, 0.5, 64, 1, api.OK}, {1, most, 64, 1, api.OK}, {1, least, 0, 0, api.ErrShape},
		{44, 0.5, 64, 1, api.OK}, {45, 0.5, 128, 1, api.OK},
		{api.MaxAdded, 0.5, 0, 0, api.ErrShape}, {api.MaxAdded, most, 0, 0, api.ErrShape}, {api.MaxAdded, least, 0, 0, api.ErrShape},
		// Which error comes first.
		{-1, 0.5, 0, 0, api.ErrArg}, {math.MinInt, 0.5, 0, 0, api.ErrArg}, {api.MaxAdded + 1, 0.5, 0, 0, api.ErrArg}, {math.MaxInt, 0.5, 0, 0, api.ErrArg},
		{-1, nan, 0, 0, api.ErrArg}, {-1, 0, 0, 0, api.ErrArg}, {api.MaxAdded + 1, 1, 0, 0, api.ErrArg}, {api.MaxAdded + 1, nan, 0, 0, api.ErrArg},
		{0, nan, 0, 0, api.ErrRate}, {0, 0, 0, 0, api.ErrRate}, {0, 1, 0, 0, api.ErrRate},
		{1, nan, 0, 0, api.ErrRate}, {1, 0, 0, 0, api.ErrRate}, {1, math.Copysign(0, -1), 0, 0, api.ErrRate}, {1, 1, 0, 0, api.ErrRate},
		{1, -least, 0, 0, api.ErrRate}, {1, -0.5, 0, 0, api.ErrRate}, {1, math.Nextafter(1, 2), 0, 0, api.ErrRate}, {1, 2, 0, 0, api.ErrRate},
		{1, inf, 0, 0, api.ErrRate}, {1, -inf, 0, 0, api.ErrRate},
		{api.MaxAdded, nan, 0, 0, api.ErrRate}, {api.MaxAdded, 0, 0, 0, api.ErrRate}, {api.MaxAdded, 1, 0, 0, api.ErrRate},
	} {
		if bits, hashes, no := bloom.Plan(c.added, c.rate); bits != c.bits || hashes != c.hashes || no != c.no {
			t.Errorf("P7.2: Plan(%d, %v): %d, %d, %d, want %d, %d, %d", c.added, c.rate, bits, hashes, no, c.bits, c.hashes, c.no)
		}
	}
}

func TestPlansAreFilters(t *testing.T) {
	x := dice(73)
	for range 200 {
		bits, hashes, no := bloom.Plan(x.throw(20000), float64(1+x.throw(1000))/1001)
		if no != api.OK {
			t.Fatalf("P7.2: a filter of that rate is not found: %d", no)
		}
		fresh(t, bits, hashes)
	}
}

func TestBest(t *testing.T) {
	nan, inf, minus := math.NaN(), math.Inf(1), math.Copysign(0, -1)
	for _, c := range []struct {
		rates []float64
		want  int
	}{
		{nil, -1}, {[]float64{}, -1}, {[]float64{nan}, -1}, {[]float64{nan, nan, nan}, -1},
		{[]float64{0.5}, 0}, {[]float64{0}, 0}, {[]float64{minus}, 0}, {[]float64{inf}, 0}, {[]float64{-inf}, 0}, {[]float64{-1}, 0},
		{[]float64{nan, 0.5, 0.25, 0.25}, 2}, {[]float64{0.5, nan, 0.25}, 2}, {[]float64{0.25, nan, 0.5}, 0}, {[]float64{0.25, 0.5, nan}, 0},
		{[]float64{nan, nan, 7}, 2}, {[]float64{nan, inf}, 1}, {[]float64{inf, nan}, 0}, {[]float64{nan, inf, inf, nan}, 1},
		{[]float64{0.25, 0.25, 0.25}, 0}, {[]float64{1, 0.25, 0.25}, 1}, {[]float64{3, 2, 1}, 2}, {[]float64{1, 2, 3}, 0}, {[]float64{2, 1, 3}, 1},
		{[]float64{0, minus}, 0}, {[]float64{minus, 0}, 0}, {[]float64{1, 0, minus}, 1}, {[]float64{1, minus, 0}, 1}, {[]float64{0, minus, -1}, 2},
		{[]float64{inf, 1}, 1}, {[]float64{1, inf}, 0}, {[]float64{1, -inf}, 1}, {[]float64{-inf, inf, -inf}, 0}, {[]float64{inf, -inf, nan, -inf}, 1},
		{[]float64{math.MaxFloat64, inf}, 0}, {[]float64{inf, math.MaxFloat64}, 1}, {[]float64{-math.MaxFloat64, -inf}, 1},
		{[]float64{math.SmallestNonzeroFloat64, 0}, 1}, {[]float64{0, math.SmallestNonzeroFloat64}, 0}, {[]float64{0, -math.SmallestNonzeroFloat64}, 1},
		{[]float64{1, math.Nextafter(1, 0)}, 1}, {[]float64{math.Nextafter(1, 0), 1}, 0},
	} {
		room := append(slices.Clone(c.rates), -inf, -inf)
		was := slices.Clone(room)
		if got := bloom.Best(room[:len(c.rates)]...); got != c.want {
			t.Errorf("P7.8: Best(%v) = %d, want %d", c.rates, got, c.want)
		}
		if !slices.EqualFunc(room, was, alike) {
			t.Errorf("P0.1: Best(%v) changed what was handed in", c.rates)
		}
	}
	if got := bloom.Best(); got != -1 {
		t.Errorf("P7.8: Best() = %d, want -1", got)
	}
}
