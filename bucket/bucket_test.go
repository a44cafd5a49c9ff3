package bucket_test

import (
	"math"
	"testing"

	"gleaning/api"
	"gleaning/bucket"
)

func TestOfP801(t *testing.T) {
	for dur, want := range map[int]int{
		math.MinInt: 0, -1: 0, 0: 0, 1: 1, 4: 1, 5: 2, 9: 2, 10: 3, 49: 3, 50: 4, 99: 4, 100: 5, 499: 5,
		500: 6, 999: 6, 1000: 7, 1001: 7, math.MaxInt: 7,
	} {
		if got := bucket.Of(dur); got != want {
			t.Errorf("%d: %d, not %d", dur, got, want)
		}
	}
}

func TestAddP801(t *testing.T) {
	zero := api.Counter{}
	some := api.Counter{Count: 5, Errs: 2, By: [8]int{1, 0, 3, 0, 0, 0, 0, 1}}
	ill := api.Counter{Count: -5, Errs: math.MinInt, By: [8]int{-1, 9, 0, math.MaxInt}}
	top := api.Counter{Count: math.MaxInt, Errs: math.MaxInt, By: [8]int{math.MaxInt}}
	cases := []struct {
		c    api.Counter
		s    api.Span
		most int
		want api.Counter
	}{
		{zero, api.Span{}, 9, api.Counter{Count: 1, By: [8]int{1}}},
		{zero, api.Span{Dur: 7, Err: true}, 9, api.Counter{Count: 1, Errs: 1, By: [8]int{0, 0, 1}}},
		{zero, api.Span{Dur: 7, Err: true}, 0, zero},
		{some, api.Span{Dur: -7, Err: true}, -1, zero},
		{some, api.Span{Dur: 2000}, 100, api.Counter{Count: 6, Errs: 2, By: [8]int{1, 0, 3, 0, 0, 0, 0, 2}}},
		{some, api.Span{Dur: 2000, Err: true}, 2, api.Counter{Count: 2, Errs: 2, By: [8]int{1, 0, 2, 0, 0, 0, 0, 2}}},
		{some, api.Span{Dur: 5}, 3, api.Counter{Count: 3, Errs: 2, By: [8]int{1, 0, 3, 0, 0, 0, 0, 1}}},
		{ill, api.Span{Dur: 0, Err: true}, 5, api.Counter{Count: 1, Errs: 1, By: [8]int{1, 5, 0, 5}}},
		{ill, api.Span{Dur: 10}, math.MaxInt, api.Counter{Count: 1, By: [8]int{0, 9, 0, math.MaxInt}}},
		{top, api.Span{Err: true}, math.MaxInt, top},
		{some, api.Span{}, math.MinInt, zero},
	}
	for i, c := range cases {
		if got := bucket.Add(c.c, c.s, c.most); got != c.want {
			t.Errorf("%d: %v, not %v", i, got, c.want)
		}
	}
}

func TestJoinP801(t *testing.T) {
	a := api.Counter{Count: 5, Errs: -2, By: [8]int{1, 0, 3, 0, 0, -9, 0, 1}}
	b := api.Counter{Count: 7, Errs: 4, By: [8]int{0, 2, 3, 0, 0, -9, 0, 8}}
	top := api.Counter{Count: math.MaxInt, Errs: math.MaxInt - 4, By: [8]int{1: math.MaxInt}}
	low := api.Counter{Count: math.MinInt, Errs: math.MinInt, By: [8]int{math.MinInt}}
	cases := []struct {
		a, b api.Counter
		most int
		want api.Counter
	}{
		{a, b, 100, api.Counter{Count: 12, Errs: 4, By: [8]int{1, 2, 6, 0, 0, 0, 0, 9}}},
		{a, b, 5, api.Counter{Count: 5, Errs: 4, By: [8]int{1, 2, 5, 0, 0, 0, 0, 5}}},
		{a, b, 0, api.Counter{}},
		{a, b, -3, api.Counter{}},
		{b, top, math.MaxInt, api.Counter{Count: math.MaxInt, Errs: math.MaxInt, By: [8]int{0, math.MaxInt, 3, 0, 0, 0, 0, 8}}},
		{low, low, math.MaxInt, api.Counter{}},
		{low, a, math.MaxInt, api.Counter{Count: 5, By: [8]int{1, 0, 3, 0, 0, 0, 0, 1}}},
	}
	for i, c := range cases {
		if got := bucket.Join(c.a, c.b, c.most); got != c.want {
			t.Errorf("%d: %v, not %v", i, got, c.want)
		}
		if got := bucket.Join(c.b, c.a, c.most); got != c.want {
			t.Errorf("%d turned round: %v, not %v", i, got, c.want)
		}
	}
}

func TestNothingIsTurnedP802(t *testing.T) {
	c := api.Counter{Count: 1, By: [8]int{1}}
	before := c
	first := bucket.Add(c, api.Span{}, 9)
	if second := bucket.Add(c, api.Span{}, 9); first != second || c != before {
		t.Error("the second answer is another one")
	}
}
