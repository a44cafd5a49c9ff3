package retire_test

import (
	"fmt"
	"math"
	"slices"
	"testing"

	"gleaning/api"
	"gleaning/block"
	"gleaning/retire"
	"gleaning/sample"
)

// empty is how many bytes a block of few numbers and no episodes has.
const empty = 8

// born are blocks that were born at these ticks, numbered from 10 on.
func born(l ...int) []api.Block {
	out := []api.Block(nil)
	for i, tick := range l {
		out = append(out, api.Block{Number: 10 + i, Born: tick})
	}
	return out
}

func TestTotalP2001(t *testing.T) {
	c := sample.Chance(21)
	a, b := block.Make(1, 2, 3, c.Episodes(3, 3)), block.Make(2, 2, 3, c.Episodes(1, 3))
	wrong := block.Make(-1, 2, 3, c.Episodes(3, 3))
	if got := retire.Total([]api.Block{a, wrong, b}); got != block.Size(a)+block.Size(b) {
		t.Errorf("%d", got)
	}
	if retire.Total(nil) != 0 || retire.Total(born(1, 2)) != 2*empty {
		t.Error("of none, and of empty ones")
	}
}

func TestChooseP2001(t *testing.T) {
	cases := []struct {
		l                 []api.Block
		now, keep, budget int
		want              []int
	}{
		{nil, 100, 0, 0, nil},
		{born(5, 3, 4), 10, 5, 1000, []int{11, 12}},
		{born(5, 3, 4), 10, 4, 1000, []int{10, 11, 12}},
		{born(5, 3, 4), 10, 7, 1000, nil},
		{born(5, 3, 4), 10, 6, 1000, []int{11}},
		{born(5, 3, 4), 10, -1, 1000, []int{10, 11, 12}},
		{born(20), 10, -10, 1000, nil},
		{born(20), 10, -11, 1000, []int{10}},
		{born(5, 3, 4), 10, 100, 3 * empty, nil},
		{born(5, 3, 4), 10, 100, 3*empty - 1, []int{11}},
		{born(5, 3, 4), 10, 100, 2 * empty, []int{11}},
		{born(5, 3, 4), 10, 100, 2*empty - 1, []int{11, 12}},
		{born(5, 3, 4), 10, 100, 0, []int{11, 12}},
		{born(5, 3, 4), 10, 100, -1, []int{11, 12}},
		{born(5, 3, 4), 10, 100, math.MinInt, []int{11, 12}},
		{born(3, 4, 3, 3), 10, 100, 2 * empty, []int{10, 12}},
		{born(5, 3, 4, 1, 9), 10, 6, empty, []int{11, 13, 12, 10}},
		{born(5, 3), 10, 6, 0, []int{11}},
		{born(math.MinInt, math.MaxInt), math.MaxInt, math.MaxInt - 1, 1000, []int{10}},
		{born(math.MinInt, math.MaxInt), math.MaxInt, math.MaxInt, 1000, nil},
		{born(math.MinInt, math.MaxInt), math.MinInt, math.MinInt, 1000, []int{10}},
		{born(-1, -2), math.MaxInt, math.MaxInt, 1000, nil},
	}
	for i, c := range cases {
		if got := retire.Choose(c.l, c.now, c.keep, c.budget); !slices.Equal(got, c.want) {
			t.Errorf("%d: %v, not %v", i, got, c.want)
		}
	}
}

func TestChooseBySizeP2001(t *testing.T) {
	c := sample.Chance(22)
	l := born(3, 2, 1)
	l[1].Episodes = block.Make(0, 0, 0, c.Episodes(5, 3)).Episodes
	size := block.Size(l[1])
	for budget, want := range map[int][]int{
		size + 2*empty:     nil,
		size + 2*empty - 1: {12},
		size + empty:       {12},
		size + empty - 1:   {12, 11},
		empty:              {12, 11},
		0:                  {12, 11},
	} {
		if got := retire.Choose(l, 9, 100, budget); !slices.Equal(got, want) {
			t.Errorf("%d: %v, not %v", budget, got, want)
		}
	}
	l[0].Number, l[2].Number = 7, 7
	if got := retire.Choose(l, 9, 6, 0); !slices.Equal(got, []int{11, 7}) {
		t.Errorf("one number twice: %v", got)
	}
}

func TestNothingIsTurnedP2002(t *testing.T) {
	l := born(5, 3, 4)
	before := fmt.Sprint(l)
	one := retire.Choose(l, 10, 100, 0)
	two := retire.Choose(l, 10, 100, 0)
	clear(one)
	if !slices.Equal(two, []int{11, 12}) || fmt.Sprint(l) != before {
		t.Error("memory is shared")
	}
}
