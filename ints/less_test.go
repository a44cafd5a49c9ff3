package ints_test

import (
	"math"
	"testing"

	"gleaning/ints"
)

func TestLess(t *testing.T) {
	cases := []struct{ a, b, want int }{
		{5, 3, 2}, {5, -3, 8}, {-5, -3, -2}, {-5, 3, -8}, {math.MaxInt - 3, -3, math.MaxInt}, {math.MaxInt - 4, -3, math.MaxInt - 1}, {3, 5, -2}, {0, 0, 0},
		{math.MaxInt, math.MaxInt, 0}, {math.MinInt, math.MinInt, 0},
		{math.MinInt, 1, math.MinInt}, {math.MinInt + 1, 1, math.MinInt}, {-2, math.MaxInt, math.MinInt}, {-1, math.MaxInt, math.MinInt},
		{math.MaxInt, -1, math.MaxInt}, {0, math.MinInt, math.MaxInt}, {-1, math.MinInt, math.MaxInt}, {-2, math.MinInt, math.MaxInt - 1},
		{math.MaxInt, math.MinInt, math.MaxInt}, {math.MinInt, math.MaxInt, math.MinInt}, {0, math.MaxInt, -math.MaxInt},
	}
	for _, c := range cases {
		if got := ints.Less(c.a, c.b); got != c.want {
			t.Errorf("%d less %d: %d, not %d", c.a, c.b, got, c.want)
		}
	}
}
