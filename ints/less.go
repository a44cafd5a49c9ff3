package ints

import (
	"math"
)

// Less is a without b; what is too great or too small counts as the greatest int, or the least.
func Less(a, b int) int {
	switch {
	case b > 0 && a < math.MinInt+b:
		return math.MinInt
	case b < 0 && a > math.MaxInt+b:
		return math.MaxInt
	}
	return a - b
}
