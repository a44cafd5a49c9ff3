package window_test

import (
	"math"
	"testing"

	"gleaning/api"
	"gleaning/window"
)

var lengths = []int{60, 3600, 86400}

func TestOfP901(t *testing.T) {
	cases := []struct{ level, sec, want int }{
		{0, 0, 0}, {0, 59, 0}, {0, 60, 1}, {0, 3600, 60},
		{1, 3599, 0}, {1, 3600, 1}, {2, 86399, 0}, {2, 86400, 1},
		{0, api.MaxStart, api.MaxStart / 60},
		{1, api.MaxStart, api.MaxStart / 3600},
		{2, api.MaxStart, api.MaxStart / 86400},
		{0, api.MaxStart + 1, -1}, {0, -1, -1}, {2, math.MinInt, -1}, {2, math.MaxInt, -1},
		{-1, 0, -1}, {3, 0, -1}, {math.MinInt, 5, -1}, {math.MaxInt, 5, -1},
	}
	for _, c := range cases {
		if got := window.Of(c.level, c.sec); got != c.want {
			t.Errorf("%d %d: %d, not %d", c.level, c.sec, got, c.want)
		}
	}
}

func TestSpanP901(t *testing.T) {
	for level, long := range lengths {
		last := api.MaxStart / long
		for _, n := range []int{0, 1, 25, last - 1, last} {
			begin, end, ok := window.Span(level, n)
			if begin != n*long || end != begin+long || !ok {
				t.Errorf("%d %d: %d %d %v", level, n, begin, end, ok)
			}
			if window.Of(level, begin) != n || n < last && window.Of(level, end) != n+1 {
				t.Errorf("%d %d: not the window of its seconds", level, n)
			}
		}
		for _, n := range []int{-1, last + 1, math.MinInt, math.MaxInt} {
			if begin, end, ok := window.Span(level, n); begin != 0 || end != 0 || ok {
				t.Errorf("%d %d: %d %d %v", level, n, begin, end, ok)
			}
		}
	}
	for _, level := range []int{-1, 3, math.MinInt, math.MaxInt} {
		if begin, end, ok := window.Span(level, 0); begin != 0 || end != 0 || ok {
			t.Errorf("%d: %d %d %v", level, begin, end, ok)
		}
	}
}

func TestUpP901(t *testing.T) {
	cases := []struct{ level, n, up, window int }{
		{0, 0, 1, 0}, {0, 59, 1, 0}, {0, 60, 1, 1}, {0, 61, 1, 1},
		{1, 0, 2, 0}, {1, 23, 2, 0}, {1, 24, 2, 1},
		{0, api.MaxStart / 60, 1, api.MaxStart / 3600},
		{1, api.MaxStart / 3600, 2, api.MaxStart / 86400},
	}
	for _, c := range cases {
		if up, n, ok := window.Up(c.level, c.n); up != c.up || n != c.window || !ok {
			t.Errorf("%d %d: %d %d %v", c.level, c.n, up, n, ok)
		}
	}
	for _, c := range [][2]int{{2, 0}, {2, 5}, {3, 0}, {-1, 0}, {0, -1}, {1, -1}, {0, api.MaxStart/60 + 1}, {1, math.MaxInt}, {math.MaxInt, 0}, {math.MinInt, math.MinInt}} {
		if up, n, ok := window.Up(c[0], c[1]); up != 0 || n != 0 || ok {
			t.Errorf("%v: %d %d %v", c, up, n, ok)
		}
	}
}

func TestTheSameAgainP902(t *testing.T) {
	for level := -1; level < 4; level++ {
		for _, n := range []int{-1, 0, 100, 1 << 50} {
			of := window.Of(level, n)
			begin, end, ok := window.Span(level, n)
			up, above, there := window.Up(level, n)
			window.Of(level+1, n+1)
			begin2, end2, ok2 := window.Span(level, n)
			up2, above2, there2 := window.Up(level, n)
			if of != window.Of(level, n) || begin != begin2 || end != end2 || ok != ok2 || up != up2 || above != above2 || there != there2 {
				t.Errorf("%d %d: the second answer is another one", level, n)
			}
		}
	}
}
