package rollup_test

import (
	"fmt"
	"math"
	"slices"
	"strings"
	"testing"

	"gleaning/api"
	"gleaning/bucket"
	"gleaning/rollup"
	"gleaning/sample"
	"gleaning/window"
)

// work is a span of a service's operation.
func work(service, op string, start, dur int) api.Span {
	return api.Span{Service: service, Op: op, Start: start, Dur: dur}
}

// row is a row that counted so many that took no time.
func row(level, n int, service, op string, count int) api.Row {
	c := api.Counter{Count: count}
	c.By[0] = count
	return api.Row{Level: level, Window: n, Service: service, Op: op, Counter: c}
}

// same holds rows against rows.
func same(t *testing.T, what string, got []api.Row, want ...api.Row) {
	t.Helper()
	if !slices.Equal(got, want) {
		t.Errorf("%s: %v, not %v", what, got, want)
	}
}

func TestAddP1001(t *testing.T) {
	l := rollup.Add(nil, work("s", "b", 3700, 0), 9)
	same(t, "a first one", l, row(0, 61, "s", "b", 1), row(1, 1, "s", "b", 1), row(2, 0, "s", "b", 1))
	l = rollup.Add(l, work("s", "a", 3600, 0), 9)
	same(t, "another operation", l,
		row(0, 60, "s", "a", 1), row(0, 61, "s", "b", 1),
		row(1, 1, "s", "a", 1), row(1, 1, "s", "b", 1),
		row(2, 0, "s", "a", 1), row(2, 0, "s", "b", 1))
	l = rollup.Add(l, work("r", "z", 3661, 0), 9)
	l = rollup.Add(l, work("s", "b", 3601, 0), 9)
	same(t, "in order", l,
		row(0, 60, "s", "a", 1), row(0, 60, "s", "b", 1), row(0, 61, "r", "z", 1), row(0, 61, "s", "b", 1),
		row(1, 1, "r", "z", 1), row(1, 1, "s", "a", 1), row(1, 1, "s", "b", 2),
		row(2, 0, "r", "z", 1), row(2, 0, "s", "a", 1), row(2, 0, "s", "b", 2))
}

func TestAddStandsByBytesP1001(t *testing.T) {
	l := []api.Row(nil)
	for _, name := range []string{"b", "a\xff", "Z", "ab", "a"} {
		l = rollup.Add(l, work(name, "o", 0, 0), 9)
	}
	got := []string(nil)
	for _, r := range l[:5] {
		got = append(got, r.Service)
	}
	if fmt.Sprintf("%q", got) != `["Z" "a" "ab" "a\xff" "b"]` || len(l) != 15 {
		t.Errorf("%q", got)
	}
}

func TestAddCountsAsBucketP1001(t *testing.T) {
	s := work("s", "o", 70, 60)
	s.Err = true
	old := row(1, 0, "s", "o", 7)
	old.Counter.Errs, old.Counter.By[1] = -3, 9
	for _, most := range []int{-1, 0, 1, 8, 9, math.MaxInt} {
		l := rollup.Add([]api.Row{old}, s, most)
		if len(l) != 3 || l[1].Counter != bucket.Add(old.Counter, s, most) || l[0].Counter != bucket.Add(api.Counter{}, s, most) {
			t.Errorf("most %d: %v", most, l)
		}
	}
	top := row(0, 1, "s", "o", math.MaxInt)
	if l := rollup.Add([]api.Row{top}, s, math.MaxInt); l[0].Counter != bucket.Add(top.Counter, s, math.MaxInt) {
		t.Errorf("at the greatest: %v", l[0])
	}
}

func TestAddToWhatDoesNotStandSoP1001(t *testing.T) {
	l := []api.Row{row(2, 0, "s", "o", 5), row(0, 0, "s", "b", 1), row(0, 0, "s", "a", 1), row(1, 0, "s", "z", 1)}
	same(t, "each row once", rollup.Add(l, work("s", "a", 0, 0), 9),
		row(1, 0, "s", "a", 1), row(2, 0, "s", "a", 1), l[0], l[1], row(0, 0, "s", "a", 2), l[3])
	same(t, "ahead of the first that is behind", rollup.Add(l[1:], work("s", "aa", 0, 0), 9),
		row(0, 0, "s", "aa", 1), l[1], l[2], row(1, 0, "s", "aa", 1), l[3], row(2, 0, "s", "aa", 1))
}

func TestAddOfNoneP1001(t *testing.T) {
	l := []api.Row{row(0, 0, "s", "o", 99)}
	for i, s := range []api.Span{
		{},
		work("", "o", 0, 0),
		work("s", strings.Repeat("o", 17), 0, 0),
		work("s", "o", -1, 0),
		work("s", "o", api.MaxStart+1, 0),
		work("s", "o", 0, api.MaxDur+1),
	} {
		same(t, fmt.Sprint(i), rollup.Add(l, s, 9), l...)
	}
	last := rollup.Add(nil, work("s", "o", api.MaxStart, 0), 9)
	same(t, "the last second", last,
		row(0, api.MaxStart/60, "s", "o", 1), row(1, api.MaxStart/3600, "s", "o", 1), row(2, api.MaxStart/86400, "s", "o", 1))
}

func TestExpireP1001(t *testing.T) {
	l := []api.Row{
		row(0, 0, "s", "o", 1), row(0, 1, "s", "o", 1), row(0, 2, "s", "o", 1),
		row(1, 0, "s", "o", 1), row(2, 0, "s", "o", 1), row(2, 1, "s", "o", 1),
	}
	cases := []struct {
		sec     int
		horizon [3]int
		want    []int
	}{
		{0, [3]int{}, []int{0, 1, 2, 3, 4, 5}},
		{59, [3]int{}, []int{0, 1, 2, 3, 4, 5}},
		{60, [3]int{}, []int{1, 2, 3, 4, 5}},
		{119, [3]int{}, []int{1, 2, 3, 4, 5}},
		{120, [3]int{0, 5, 5}, []int{2, 3, 4, 5}},
		{120, [3]int{60, 0, 0}, []int{1, 2, 3, 4, 5}},
		{120, [3]int{61, 0, 0}, []int{0, 1, 2, 3, 4, 5}},
		{3600, [3]int{5000, 0, 0}, []int{0, 1, 2, 4, 5}},
		{86400, [3]int{86400, 86400, 0}, []int{0, 1, 2, 3, 5}},
		{-1, [3]int{-61, 0, 0}, []int{1, 2, 3, 4, 5}},
		{math.MaxInt, [3]int{-1, 0, math.MaxInt}, []int{4, 5}},
		{math.MaxInt, [3]int{math.MinInt, math.MinInt, math.MinInt}, nil},
		{math.MinInt, [3]int{math.MinInt, 1, math.MaxInt}, []int{0, 1, 2, 3, 4, 5}},
		{0, [3]int{math.MinInt, math.MinInt, math.MaxInt}, []int{4, 5}},
	}
	for _, c := range cases {
		want := []api.Row(nil)
		for _, i := range c.want {
			want = append(want, l[i])
		}
		same(t, fmt.Sprint(c.sec, c.horizon), rollup.Expire(l, c.sec, c.horizon), want...)
	}
}

func TestExpireOfNoWindowP1001(t *testing.T) {
	good := row(1, 5, "s", "o", 1)
	l := []api.Row{row(-1, 0, "s", "o", 1), row(3, 0, "s", "o", 1), row(0, -1, "s", "o", 1), good, row(0, api.MaxStart/60+1, "s", "o", 1), row(math.MaxInt, math.MinInt, "s", "o", 1)}
	same(t, "no such windows", rollup.Expire(l, 0, [3]int{}), good)
}

func TestFindP1001(t *testing.T) {
	same(t, "in none", rollup.Find(nil, "s", "o", 0))
	l := []api.Row{row(0, 1, "s", "o", 1), row(0, 1, "s", "p", 2), row(0, 2, "s", "o", 3), row(1, 0, "s", "o", 4), row(0, 3, "r", "o", 5)}
	same(t, "two windows", rollup.Find(l, "s", "o", 0), l[0], l[2])
	same(t, "another level", rollup.Find(l, "s", "o", 1), l[3])
	same(t, "another operation", rollup.Find(l, "s", "p", 0), l[1])
	same(t, "no such one", rollup.Find(l, "s", "", 0))
	same(t, "no such level", rollup.Find(l, "s", "o", -1))
}

func TestInWhicheverOrderP1002(t *testing.T) {
	c := sample.Chance(10)
	spans := c.Spans(60, 3)
	first := []api.Row(nil)
	for _, s := range spans {
		first = rollup.Add(first, s, 9)
	}
	for range 20 {
		for i := range spans {
			k := c.Next(i + 1)
			spans[i], spans[k] = spans[k], spans[i]
		}
		again := []api.Row(nil)
		for _, s := range spans {
			again = rollup.Add(again, s, 9)
		}
		same(t, "another order", again, first...)
	}
}

func TestAWindowIsTheSumOfItsOwnP1002(t *testing.T) {
	c := sample.Chance(11)
	for _, most := range []int{3, 1000} {
		l := []api.Row(nil)
		for range 200 {
			s := c.Span(3)
			s.Start = c.Next(200000)
			l = rollup.Add(l, s, most)
		}
		for _, up := range l {
			sum := api.Counter{}
			for _, r := range l {
				level, n, _ := window.Up(r.Level, r.Window)
				if level == up.Level && n == up.Window && r.Service == up.Service && r.Op == up.Op {
					sum = bucket.Join(sum, r.Counter, most)
				}
			}
			if up.Level > 0 && sum != up.Counter {
				t.Errorf("most %d: %v, not %v", most, up, sum)
			}
		}
	}
}

func TestNewMemoryP1002(t *testing.T) {
	l := make([]api.Row, 3, 10)
	copy(l, rollup.Add(nil, work("s", "o", 0, 0), 9))
	before := fmt.Sprint(l, l[:10])
	for i, got := range [][]api.Row{
		rollup.Add(l, work("s", "o", 0, 0), 9),
		rollup.Add(l, work("a", "o", 0, 0), 9),
		rollup.Add(l, api.Span{}, 9),
		rollup.Expire(l, 0, [3]int{}),
		rollup.Find(l, "s", "o", 0),
	} {
		clear(got)
		if fmt.Sprint(l, l[:10]) != before {
			t.Fatalf("%d: memory is shared", i)
		}
	}
}
