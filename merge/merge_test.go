package merge_test

import (
	"fmt"
	"math"
	"testing"

	"gleaning/api"
	"gleaning/block"
	"gleaning/merge"
	"gleaning/sample"
)

// tiers are blocks of these tiers.
func tiers(l ...int) []api.Block {
	out := []api.Block(nil)
	for _, tier := range l {
		out = append(out, api.Block{Tier: tier})
	}
	return out
}

func TestPickP1901(t *testing.T) {
	cases := []struct {
		l        []api.Block
		one, two int
		ok       bool
	}{
		{nil, 0, 0, false},
		{tiers(0), 0, 0, false},
		{tiers(0, 1, 2, 3), 0, 0, false},
		{tiers(0, 0), 0, 1, true},
		{tiers(0, 1, 0), 0, 2, true},
		{tiers(5, 0, 1, 1, 1), 2, 3, true},
		{tiers(3, 3, 3, 2, 1, 2, 2), 3, 5, true},
		{tiers(2, 2, 1, 0, 1, 0, 0), 3, 5, true},
		{tiers(1, 1, 2, 2), 0, 1, true},
		{tiers(0, -1, 0, -1), 1, 3, true},
		{tiers(math.MaxInt, math.MinInt, math.MaxInt), 0, 2, true},
		{tiers(math.MaxInt, math.MinInt, math.MaxInt, math.MinInt), 1, 3, true},
	}
	for i, c := range cases {
		if one, two, ok := merge.Pick(c.l); one != c.one || two != c.two || ok != c.ok {
			t.Errorf("%d: %d %d %v", i, one, two, ok)
		}
	}
}

func TestJoinP1901(t *testing.T) {
	c := sample.Chance(19)
	a := block.Make(1, 5, 2, c.Episodes(6, 4))
	b := block.Make(2, 9, 2, c.Episodes(6, 4))
	want := block.Make(7, 9, 3, append(append([]api.Episode(nil), a.Episodes...), b.Episodes...))
	if got := merge.Join(a, b, 7); fmt.Sprint(got) != fmt.Sprint(want) || !block.Right(got) {
		t.Errorf("%v, not %v", got, want)
	}
}

func TestJoinNumbersP1901(t *testing.T) {
	for i, c := range []struct{ aBorn, aTier, bBorn, bTier, born, tier int }{
		{3, 1, 2, 5, 3, 6},
		{2, 5, 3, 1, 3, 6},
		{-5, -3, -4, -3, -4, -2},
		{0, math.MaxInt, 0, 0, 0, math.MinInt},
		{math.MinInt, math.MinInt, math.MaxInt, math.MaxInt, math.MaxInt, math.MinInt},
		{0, math.MaxInt - 1, 0, 0, 0, math.MaxInt},
	} {
		got := merge.Join(api.Block{Born: c.aBorn, Tier: c.aTier}, api.Block{Born: c.bBorn, Tier: c.bTier}, -9)
		if got.Born != c.born || got.Tier != c.tier || got.Number != -9 || len(got.Episodes) != 0 {
			t.Errorf("%d: %v", i, got)
		}
	}
}

func TestNewMemoryP1902(t *testing.T) {
	c := sample.Chance(20)
	a := block.Make(1, 5, 2, c.Episodes(3, 2))
	b := block.Make(2, 9, 2, c.Episodes(3, 2))
	a.Episodes = append(make([]api.Episode, 0, 20), a.Episodes...)
	before := fmt.Sprint(a, b, a.Episodes[:20])
	got := merge.Join(a, b, 3)
	for _, e := range got.Episodes {
		for i := range e.Spans {
			clear(e.Spans[i].Attrs)
		}
		clear(e.Spans)
	}
	clear(got.Episodes)
	if fmt.Sprint(a, b, a.Episodes[:20]) != before {
		t.Error("memory is shared")
	}
}
