package gear

import (
	"math"

	"gleaner/api"
)

// Spread tells what some lengths are like (P5.6).
func Spread(lengths []int) api.Spread {
	if len(lengths) == 0 {
		return api.Spread{}
	}
	out := api.Spread{Count: len(lengths), Least: lengths[0], Greatest: lengths[0]}
	m, s := 0.0, 0.0
	for i, n := range lengths {
		out.Least, out.Greatest = min(out.Least, n), max(out.Greatest, n)
		// Each step is turned into a float64 by itself: else some machines join a product and a sum and round once.
		x := float64(n)
		d := float64(x - m)
		m = float64(m + float64(d/float64(i+1)))
		s = float64(s + float64(d*float64(x-m)))
	}
	out.Mean, out.Dev = m, math.Sqrt(float64(s/float64(len(lengths))))
	return out
}
