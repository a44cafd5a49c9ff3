package path_test

import (
	"fmt"
	"math"
	"slices"
	"testing"

	"gleaning/api"
	"gleaning/path"
	"gleaning/sample"
	"gleaning/tree"
)

// spans are spans of Id, Parent, Start and Dur.
func spans(l ...[4]int) []api.Span {
	out := []api.Span(nil)
	for _, s := range l {
		out = append(out, api.Span{Id: uint64(s[0]), Parent: uint64(s[1]), Start: s[2], Dur: s[3], Service: "s", Op: "o"})
	}
	return out
}

// same holds numbers against numbers.
func same(t *testing.T, what string, got []int, want ...int) {
	t.Helper()
	if !slices.Equal(got, want) {
		t.Errorf("%s: %v, not %v", what, got, want)
	}
}

func TestEndsP3001(t *testing.T) {
	for _, x := range [][4]int{{0, 0, 0, 0}, {5, 0, 5000, 5000}, {5, 7, 5000, 5007}, {api.MaxStart, api.MaxDur, api.MaxStart * 1000, api.MaxStart*1000 + api.MaxDur}} {
		begin, end := path.Ends(spans([4]int{1, 2, x[0], x[1]})[0])
		if begin != x[2] || end != x[3] {
			t.Errorf("%v: %d %d", x, begin, end)
		}
	}
	for i, s := range append(spans([4]int{1, 2, -1, 5}, [4]int{1, 2, 5, -1}, [4]int{1, 2, api.MaxStart + 1, 5}), api.Span{Start: 5, Dur: 5}) {
		if begin, end := path.Ends(s); begin != 0 || end != 0 {
			t.Errorf("%d: %d %d", i, begin, end)
		}
	}
}

func TestCriticalP3001(t *testing.T) {
	same(t, "nothing", path.Critical(nil))
	same(t, "one", path.Critical(spans([4]int{1, 9, 0, 0})), 0)
	same(t, "the latest end", path.Critical(spans([4]int{1, 9, 5, 10}, [4]int{2, 9, 4, 2000}, [4]int{3, 9, 5, 999})), 1)
	same(t, "by start", path.Critical(spans([4]int{1, 9, 5, 1000}, [4]int{2, 9, 4, 2000}, [4]int{3, 9, 6, 0})), 1)
	same(t, "by place", path.Critical(spans([4]int{1, 9, 5, 10}, [4]int{2, 9, 5, 10})), 0)
	same(t, "its kids", path.Critical(spans([4]int{1, 9, 0, 500}, [4]int{2, 1, 0, 600}, [4]int{3, 1, 0, 700}, [4]int{4, 3, 0, 1}, [4]int{5, 2, 0, 9999})), 0, 2, 3)
	same(t, "kids behind their parents' ends", path.Critical(spans([4]int{2, 1, 3, 0}, [4]int{1, 9, 0, 500}, [4]int{3, 9, 2, 0})), 2)
	same(t, "a ring", path.Critical(spans([4]int{1, 2, 0, 0}, [4]int{2, 3, 0, 0}, [4]int{3, 1, 0, 0})), 0, 2, 1)
	same(t, "one is not right", path.Critical(spans([4]int{1, 9, 0, 500}, [4]int{2, 1, -1, 0})))
}

func TestSelfP3001(t *testing.T) {
	kids := func(of [2]int, l ...[2]int) []api.Span {
		all := [][4]int{{1, 9, of[0], of[1]}}
		for i, k := range l {
			all = append(all, [4]int{2 + i, 1, k[0], k[1]})
		}
		return spans(all...)
	}
	for i, x := range []struct {
		l    []api.Span
		want int
	}{
		{kids([2]int{0, 5000}), 5000},
		{kids([2]int{1, 0}), 0},
		{kids([2]int{0, 5000}, [2]int{1, 500}), 4500},
		{kids([2]int{0, 5000}, [2]int{1, 500}, [2]int{3, 500}), 4000},
		{kids([2]int{0, 5000}, [2]int{1, 500}, [2]int{1, 700}, [2]int{1, 0}), 4300},
		{kids([2]int{0, 5000}, [2]int{2, 1500}, [2]int{1, 1700}), 2500},
		{kids([2]int{0, 5000}, [2]int{1, 3000}, [2]int{2, 500}), 2000},
		{kids([2]int{2, 1000}, [2]int{0, 2500}), 500},
		{kids([2]int{2, 1000}, [2]int{0, 1500}), 1000},
		{kids([2]int{2, 1000}, [2]int{3, 1500}), 1000},
		{kids([2]int{2, 1000}, [2]int{0, 9000}), 0},
		{kids([2]int{2, 1500}, [2]int{3, 900}), 1000},
		{kids([2]int{2, 500}, [2]int{4, 900}, [2]int{0, 1}), 500},
		{kids([2]int{2, 500}, [2]int{2, 0}, [2]int{2, 500}), 0},
		{kids([2]int{api.MaxStart, api.MaxDur}), api.MaxDur},
	} {
		if got := path.Self(x.l, 0); got != x.want {
			t.Errorf("%d: %d, not %d", i, got, x.want)
		}
	}
	l := kids([2]int{0, 5000}, [2]int{1, 500})
	if path.Self(l, 1) != 500 {
		t.Error("of a kid")
	}
	for _, i := range []int{-1, 2, math.MinInt, math.MaxInt} {
		if path.Self(l, i) != 0 {
			t.Errorf("no place %d", i)
		}
	}
	l[1].Op = ""
	if path.Self(l, 0) != 0 || path.Self(nil, 0) != 0 {
		t.Error("one is not right")
	}
}

func TestSelfOfAnyP3001(t *testing.T) {
	c := sample.Chance(30)
	for range 300 {
		l := []api.Span(nil)
		for range 1 + c.Next(7) {
			l = append(l, spans([4]int{c.Next(5), c.Next(5), c.Next(3), c.Next(2500)})...)
		}
		parents := tree.Parents(l)
		for i := range l {
			want := 0
			begin, end := path.Ends(l[i])
			for ms := begin; ms < end; ms++ {
				own := 1
				for k := range l {
					if from, to := path.Ends(l[k]); parents[k] == i && ms >= from && ms < to {
						own = 0
					}
				}
				want += own
			}
			if got := path.Self(l, i); got != want {
				t.Fatalf("%v: %d: %d, not %d", l, i, got, want)
			}
		}
	}
}

func TestNewMemoryP3002(t *testing.T) {
	l := spans([4]int{1, 9, 0, 500}, [4]int{2, 1, 0, 600})
	before := fmt.Sprint(l)
	one, two := path.Critical(l), path.Critical(l)
	clear(one)
	same(t, "again", two, 0, 1)
	if path.Self(l, 0) != path.Self(l, 0) || fmt.Sprint(l) != before {
		t.Error("memory is shared")
	}
}
