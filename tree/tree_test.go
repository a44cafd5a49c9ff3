package tree_test

import (
	"fmt"
	"math"
	"slices"
	"testing"

	"gleaning/api"
	"gleaning/sample"
	"gleaning/tree"
)

// spans are spans of Id, Parent and Start.
func spans(l ...[3]int) []api.Span {
	out := []api.Span(nil)
	for _, s := range l {
		out = append(out, api.Span{Id: uint64(s[0]), Parent: uint64(s[1]), Start: s[2]})
	}
	return out
}

// family is a trace: 0 has 3 and 1, 3 has 2 and 4, 5 is alone.
func family() []api.Span {
	return spans([3]int{10, 99, 5}, [3]int{11, 10, 7}, [3]int{12, 13, 9}, [3]int{13, 10, 6}, [3]int{14, 13, 2}, [3]int{15, 99, 4})
}

// same holds numbers against numbers.
func same(t *testing.T, what string, got []int, want ...int) {
	t.Helper()
	if !slices.Equal(got, want) {
		t.Errorf("%s: %v, not %v", what, got, want)
	}
}

func TestParentsP2901(t *testing.T) {
	same(t, "nothing", tree.Parents(nil))
	same(t, "a family", tree.Parents(family()), -1, 0, 3, 0, 3, -1)
	same(t, "one that names itself", tree.Parents(spans([3]int{1, 1, 0})), -1)
	same(t, "the first other", tree.Parents(spans([3]int{1, 1, 0}, [3]int{1, 9, 0}, [3]int{1, 9, 0})), 1, -1, -1)
	same(t, "the first of one Id", tree.Parents(spans([3]int{2, 1, 0}, [3]int{1, 9, 0}, [3]int{1, 9, 0}, [3]int{3, 1, 0})), 1, -1, -1, 1)
	same(t, "no Id is an Id", tree.Parents(spans([3]int{0, 5, 0}, [3]int{1, 0, 0})), -1, 0)
	other := family()
	for i := range other {
		other[i].Trace.Lo = uint64(i)
	}
	same(t, "whatever the trace", tree.Parents(other), -1, 0, 3, 0, 3, -1)
	far := []api.Span{{Id: math.MaxUint64, Parent: 1 << 63}, {Id: 1 << 63, Parent: 7}}
	same(t, "wide numbers", tree.Parents(far), 1, -1)
}

func TestRingsP2901(t *testing.T) {
	same(t, "two", tree.Parents(spans([3]int{1, 2, 0}, [3]int{2, 1, 0})), -1, 0)
	same(t, "three", tree.Parents(spans([3]int{1, 2, 0}, [3]int{2, 3, 0}, [3]int{3, 1, 0})), -1, 2, 0)
	same(t, "the other way round", tree.Parents(spans([3]int{1, 3, 0}, [3]int{2, 1, 0}, [3]int{3, 2, 0})), -1, 0, 1)
	same(t, "into a ring", tree.Parents(spans([3]int{5, 4, 0}, [3]int{4, 1, 0}, [3]int{3, 2, 0}, [3]int{2, 1, 0}, [3]int{1, 3, 0}, [3]int{6, 4, 0})), 1, 4, -1, 4, 2, 1)
	same(t, "the least place is not the least Id or Start", tree.Parents(spans([3]int{9, 1, 9}, [3]int{1, 9, 1})), -1, 0)
	same(t, "two rings", tree.Parents(spans([3]int{1, 2, 0}, [3]int{3, 4, 0}, [3]int{4, 3, 0}, [3]int{2, 1, 0})), -1, -1, 1, 0)
	same(t, "of one Id", tree.Parents(spans([3]int{1, 1, 0}, [3]int{1, 1, 0}, [3]int{1, 1, 0})), -1, 0, 0)
}

// slow are the parents, worked out by going from each one to itself.
func slow(l []api.Span) []int {
	named := make([]int, len(l))
	for i, s := range l {
		named[i] = -1
		for k, other := range l {
			if k != i && other.Id == s.Parent && named[i] == -1 {
				named[i] = k
			}
		}
	}
	out := slices.Clone(named)
	for i := range l {
		least := i
		at := named[i]
		for n := 0; n < len(l) && at != i && at != -1; n++ {
			least = min(least, at)
			at = named[at]
		}
		if at == i && least == i {
			out[i] = -1
		}
	}
	return out
}

func TestParentsOfAnyP2901(t *testing.T) {
	c := sample.Chance(29)
	for range 5000 {
		l := []api.Span(nil)
		ids := 1 + c.Next(9)
		for range c.Next(9) {
			l = append(l, api.Span{Id: uint64(c.Next(ids)), Parent: uint64(c.Next(ids)), Start: c.Next(3)})
		}
		if got, want := tree.Parents(l), slow(l); !slices.Equal(got, want) {
			t.Fatalf("%v: %v, not %v", l, got, want)
		}
	}
}

func TestOrderP2902(t *testing.T) {
	same(t, "nothing", tree.Order(nil))
	same(t, "a family", tree.Order(family()), 5, 0, 3, 4, 2, 1)
	same(t, "by place", tree.Order(spans([3]int{1, 9, 3}, [3]int{2, 9, 3}, [3]int{3, 9, 2}, [3]int{4, 9, 3})), 2, 0, 1, 3)
	same(t, "below 0", tree.Order(spans([3]int{1, 9, math.MaxInt}, [3]int{2, 9, math.MinInt}, [3]int{3, 9, 0})), 1, 2, 0)
	same(t, "kids that begin ahead", tree.Order(spans([3]int{1, 9, 8}, [3]int{2, 1, 7}, [3]int{3, 2, 6}, [3]int{4, 9, 9}, [3]int{5, 1, 1})), 0, 4, 1, 2, 3)
	same(t, "a ring", tree.Order(spans([3]int{1, 2, 5}, [3]int{2, 3, 0}, [3]int{3, 1, 9})), 0, 2, 1)
}

func TestDepthsP2902(t *testing.T) {
	same(t, "nothing", tree.Depths(nil))
	same(t, "a family", tree.Depths(family()), 0, 1, 2, 1, 2, 0)
	same(t, "a ring", tree.Depths(spans([3]int{1, 2, 0}, [3]int{2, 3, 0}, [3]int{3, 1, 0})), 0, 2, 1)
}

func TestSizesP2902(t *testing.T) {
	same(t, "nothing", tree.Sizes(nil))
	same(t, "a family", tree.Sizes(family()), 5, 1, 1, 3, 1, 1)
	same(t, "a ring", tree.Sizes(spans([3]int{1, 2, 0}, [3]int{2, 3, 0}, [3]int{3, 1, 0})), 3, 1, 2)
}

func TestOfAnyP2902(t *testing.T) {
	c := sample.Chance(30)
	for range 3000 {
		l := []api.Span(nil)
		for range c.Next(12) {
			l = append(l, api.Span{Id: uint64(c.Next(9)), Parent: uint64(c.Next(9)), Start: c.Next(3)})
		}
		parents, order, depths, sizes := tree.Parents(l), tree.Order(l), tree.Depths(l), tree.Sizes(l)
		place := make([]int, len(l))
		for at, i := range order {
			place[i] = at + 1
		}
		for i, up := range parents {
			depth := 0
			if up >= 0 {
				depth = depths[up] + 1
			}
			if place[i] == 0 || depths[i] != depth || up >= 0 && (place[i] <= place[up] || place[i] >= place[up]+sizes[up]) {
				t.Fatalf("%v: %v %v %v %v", l, parents, order, depths, sizes)
			}
			for k, other := range parents {
				ahead := l[i].Start < l[k].Start || l[i].Start == l[k].Start && i < k
				if up == other && i != k && ahead != (place[i] < place[k]) {
					t.Fatalf("%v: %d and %d: %v", l, i, k, order)
				}
			}
		}
		if len(order) != len(l) {
			t.Fatalf("%v: %v", l, order)
		}
	}
}

func TestLongP2902(t *testing.T) {
	l := []api.Span(nil)
	for i := range 200000 {
		l = append(l, api.Span{Id: uint64(i), Parent: uint64(i + 1)})
	}
	if d := tree.Depths(l); d[0] != len(l)-1 || tree.Sizes(l)[len(l)-1] != len(l) {
		t.Error("a long chain")
	}
	l[len(l)-1].Parent = 0
	if d := tree.Depths(l); d[0] != 0 || d[1] != len(l)-1 {
		t.Error("a long ring")
	}
}

func TestNewMemoryP2903(t *testing.T) {
	l := family()
	before := fmt.Sprint(l)
	for _, call := range []func(l []api.Span) []int{tree.Parents, tree.Order, tree.Depths, tree.Sizes} {
		one, two := call(l), call(l)
		want := slices.Clone(two)
		clear(one)
		if !slices.Equal(two, want) || fmt.Sprint(l) != before {
			t.Error("memory is shared")
		}
	}
}
