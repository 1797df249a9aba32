package acks

import (
	"math"
	"testing"
)

// P12.1, P12.2: Low at the greatest number, to which no test comes by two thousand million
// calls: above it there is no number that could be missing.
func TestLowAtTheMost(t *testing.T) {
	for _, way := range []func(*Acks) bool{
		func(a *Acks) bool { return a.Add(most) },
		func(a *Acks) bool { return a.Merge(math.MaxInt, []int{most, most, most + 1}) == 1 },
	} {
		a := &Acks{low: most - 1}
		if a.Whole(most) || a.Whole(most+1) || !a.Whole(most-1) {
			t.Error("Whole, with the most missing")
		}
		if !way(a) || a.Low() != most || len(a.Set()) != 0 || a.Add(most) || a.Add(most+1) || !a.Has(most) || a.Has(most+1) {
			t.Errorf("Low is %d, the set %d", a.Low(), a.Set())
		}
		for _, upto := range []int{most, most + 1, 1 << 40, math.MaxInt} {
			if !a.Whole(upto) || len(a.Missing(upto)) != 0 {
				t.Errorf("of %d some are missing", upto)
			}
		}
	}
}
