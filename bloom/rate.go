package bloom

import (
	"math"
	"sort"

	"gleaner/api"
)

// pow is x times itself n times over, by the chapter's order of operations.
// Each product is turned into a float64 by itself: else some machines join it with what follows and round once.
func pow(x float64, n int) float64 {
	z, b := 1.0, x
	for n > 0 {
		if n%2 == 1 {
			z = float64(z * b)
		}
		b = float64(b * b)
		n /= 2
	}
	return z
}

// Rate is the share of keys that a filter takes for added though they are not, as it is expected (P7.1).
func Rate(bits, hashes, added int) float64 {
	if bits < 1 || bits > api.MaxBits || hashes < 1 || hashes > api.MaxHashes || added < 0 || added > api.MaxAdded {
		return math.NaN()
	}
	e := float64(1 - float64(1/float64(bits)))
	f := float64(1 - pow(e, hashes*added))
	return pow(f, hashes)
}

// Plan is the least filter whose rate is no greater (P7.2).
func Plan(added int, rate float64) (bits, hashes int, e api.Errno) {
	if added < 0 || added > api.MaxAdded {
		return 0, 0, api.ErrArg
	}
	// Asked so, NaN is refused too.
	if !(rate > 0 && rate < 1) {
		return 0, 0, api.ErrRate
	}
	least := maxWords + 1
	for i := range api.MaxHashes {
		if n := fewest(i+1, added, rate); n < least {
			least, hashes = n, i+1
		}
	}
	if least > maxWords {
		return 0, 0, api.ErrShape
	}
	return wordBits * least, hashes, api.OK
}

// fewest is the least number of words with which the rate is kept to; maxWords + 1, if it is with none.
// It is found by halving, because Rate never rises as bits do: products of numbers from 0 on keep the order of what goes in, quotient and differences turn it, and rounding keeps it.
func fewest(hashes, added int, rate float64) int {
	return 1 + sort.Search(maxWords, func(i int) bool {
		return Rate(wordBits*(i+1), hashes, added) <= rate
	})
}

// Best is the place of the least of some rates (P7.8).
func Best(rates ...float64) int {
	best := -1
	for i, r := range rates {
		if !math.IsNaN(r) && (best < 0 || r < rates[best]) {
			best = i
		}
	}
	return best
}
