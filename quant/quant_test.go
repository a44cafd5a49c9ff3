package quant_test

import (
	"fmt"
	"math"
	"math/big"
	"slices"
	"testing"

	"gleaning/api"
	"gleaning/quant"
	"gleaning/sample"
)

// by is a counter by duration.
func by(l ...int) api.Counter {
	c := api.Counter{}
	copy(c.By[:], l)
	return c
}

// row is a row of a level.
func row(level int, service, op string, count, errs int) api.Row {
	return api.Row{Level: level, Service: service, Op: op, Counter: api.Counter{Count: count, Errs: errs}}
}

const top = math.MaxInt

func TestTotalP3101(t *testing.T) {
	for i, x := range []struct {
		c    api.Counter
		want int
	}{
		{api.Counter{}, 0}, {api.Counter{Count: 9, Errs: 9}, 0}, {by(1, 2, 3, 4, 5, 6, 7, 8), 36}, {by(-1, 2, math.MinInt), 2},
		{by(top), top}, {by(top, 1), top}, {by(top, top, top, top, top, top, top, top), top}, {by(top-1, 0, 1), top}, {by(top-1, -5), top - 1},
	} {
		if got := quant.Total(x.c); got != x.want {
			t.Errorf("%d: %d, not %d", i, got, x.want)
		}
	}
}

func TestQuantileP3101(t *testing.T) {
	all := by(1, 1, 1, 1, 1, 1, 1, 1)
	for i, x := range []struct {
		c       api.Counter
		p, want int
	}{
		{all, 0, 0}, {all, 125, 0}, {all, 126, 1}, {all, 250, 1}, {all, 251, 5}, {all, 375, 5}, {all, 376, 10}, {all, 500, 10}, {all, 501, 50},
		{all, 626, 100}, {all, 750, 100}, {all, 751, 500}, {all, 875, 500}, {all, 876, 1000}, {all, 1000, 1000},
		{by(0, 0, 3), 0, 5}, {by(0, 0, 3), 1, 5}, {by(0, 0, 3), 1000, 5}, {by(0, 0, 0, 0, 0, 0, 0, 1), 0, 1000},
		{by(-9, 0, 1, 2), 333, 5}, {by(-9, 0, 1, 2), 334, 10}, {by(-9, 0, 1, 2), 0, 5},
		{by(999, 1), 999, 0}, {by(999, 1), 1000, 1},
		{by(top, top), 1000, 0}, {by(top/2, 0, top/2, 2), 500, 5}, {by(top/2+1, 0, top/2), 500, 0}, {by(1, top-1), 1, 1}, {by(1, top-1), 0, 0}, {by(top-1, 0, 1), 1000, 5}, {by(top-1, 0, 1), 999, 0},
	} {
		if got, ok := quant.Quantile(x.c, x.p); got != x.want || !ok {
			t.Errorf("%d: %d %v, not %d", i, got, ok, x.want)
		}
	}
	for i, x := range []struct {
		c api.Counter
		p int
	}{{api.Counter{}, 500}, {by(-1, -2), 0}, {all, -1}, {all, 1001}, {all, math.MinInt}, {all, top}, {api.Counter{Count: 5}, 500}} {
		if got, ok := quant.Quantile(x.c, x.p); got != 0 || ok {
			t.Errorf("of none, %d: %d %v", i, got, ok)
		}
	}
}

func TestQuantileOfAnyP3101(t *testing.T) {
	c := sample.Chance(31)
	lowest := []int{0, 1, 5, 10, 50, 100, 500, 1000}
	for range 3000 {
		counter, p := api.Counter{}, c.Next(1001)
		all := new(big.Int)
		for i := range counter.By {
			counter.By[i] = int(c.Wide()>>4>>c.Next(64)) * c.Next(2)
			all.Add(all, big.NewInt(int64(counter.By[i])))
		}
		if !all.IsInt64() {
			continue
		}
		sum, want, found := new(big.Int), 0, false
		for i, n := range counter.By {
			sum.Add(sum, big.NewInt(int64(n)))
			left := new(big.Int).Mul(sum, big.NewInt(1000))
			right := new(big.Int).Mul(all, big.NewInt(int64(p)))
			if !found && sum.Sign() > 0 && left.Cmp(right) >= 0 {
				want, found = lowest[i], true
			}
		}
		if got, ok := quant.Quantile(counter, p); got != want || ok != found {
			t.Fatalf("%v %d: %d %v, not %d %v", counter, p, got, ok, want, found)
		}
	}
}

func TestRateP3101(t *testing.T) {
	for _, x := range [][3]int{
		{1, 0, 0}, {1, 1, 1000}, {3, 1, 333}, {3, 2, 666}, {1000, 999, 999}, {1001, 1000, 999}, {5, 9, 1000}, {5, -9, 0}, {1001, 1, 0},
		{top, top, 1000}, {top, top - 1, 999}, {top, top / 2, 499}, {top, 1, 0}, {1, top, 1000}, {5, math.MinInt, 0},
	} {
		if got, ok := quant.Rate(api.Counter{Count: x[0], Errs: x[1]}); got != x[2] || !ok {
			t.Errorf("%v: %d %v", x, got, ok)
		}
	}
	for _, count := range []int{0, -1, math.MinInt} {
		if got, ok := quant.Rate(api.Counter{Count: count, Errs: 5}); got != 0 || ok {
			t.Errorf("%d: %d %v", count, got, ok)
		}
	}
}

func TestBusyP3102(t *testing.T) {
	l := []api.Row{
		row(0, "s", "b", 3, 1), row(0, "s", "a", 5, 0), row(1, "s", "z", 99, 9), row(0, "s", "b", 4, 1), row(0, "r", "b", 5, 2),
		row(0, "t", "x", 0, 0), row(0, "t", "w", -5, -5), row(0, "s", "b", -9, -9),
	}
	want := []api.Busy{
		{Service: "s", Op: "b", Count: 7, Errs: 2}, {Service: "r", Op: "b", Count: 5, Errs: 2}, {Service: "s", Op: "a", Count: 5},
		{Service: "t", Op: "w"}, {Service: "t", Op: "x"},
	}
	for n, many := range map[int]int{5: 5, 9: 5, top: 5, 4: 4, 1: 1, 0: 0, -1: 0, math.MinInt: 0} {
		if got := quant.Busy(l, 0, n); !slices.Equal(got, want[:many]) {
			t.Errorf("%d: %v", n, got)
		}
	}
	if got := quant.Busy(l, 1, 9); !slices.Equal(got, []api.Busy{{Service: "s", Op: "z", Count: 99, Errs: 9}}) {
		t.Errorf("level 1: %v", got)
	}
	if len(quant.Busy(l, 2, 9)) != 0 || len(quant.Busy(l, -1, 9)) != 0 || len(quant.Busy(nil, 0, 9)) != 0 {
		t.Error("of none")
	}
	great := []api.Row{row(7, "s", "a", top, top), row(7, "s", "a", 1, 1), row(7, "s", "", top-1, top-1)}
	if got := quant.Busy(great, 7, 9); !slices.Equal(got, []api.Busy{{Service: "s", Op: "a", Count: top, Errs: top}, {Service: "s", Count: top - 1, Errs: top - 1}}) {
		t.Errorf("at the greatest: %v", got)
	}
	odd := []api.Row{row(0, "b", "\xff", 1, 0), row(0, "b", "a", 1, 0), row(0, "B", "z", 1, 0), row(0, "ba", "", 1, 0), row(0, "b", "", 1, 0)}
	got := ""
	for _, b := range quant.Busy(odd, 0, 9) {
		got += fmt.Sprintf("%q %q,", b.Service, b.Op)
	}
	if got != `"B" "z","b" "","b" "a","b" "\xff","ba" "",` {
		t.Error(got)
	}
}

func TestNewMemoryP3103(t *testing.T) {
	l := []api.Row{row(0, "s", "b", 3, 1), row(0, "s", "a", 5, 0)}
	before := fmt.Sprint(l)
	one, two := quant.Busy(l, 0, 9), quant.Busy(l, 0, 9)
	clear(one)
	if two[0].Count != 5 || fmt.Sprint(l) != before {
		t.Error("memory is shared")
	}
}
