package state

import (
	"slices"

	"gleaning/api"
	"gleaning/rule"
	"gleaning/span"
)

// Same says whether all of two states is the same.
func Same(a, b api.State) bool {
	return a.Now == b.Now && a.Sec == b.Sec && a.Kept == b.Kept && a.Next == b.Next &&
		rule.Same(a.Policy, b.Policy) &&
		slices.EqualFunc(a.Open, b.Open, sameEpisode) &&
		slices.EqualFunc(a.Pending, b.Pending, sameEpisode) &&
		slices.Equal(a.Memo, b.Memo) &&
		slices.Equal(a.Rows, b.Rows) &&
		slices.Equal(a.Edges, b.Edges) &&
		slices.Equal(a.Slots, b.Slots) &&
		slices.EqualFunc(a.Blocks, b.Blocks, sameBlock)
}

// sameEpisode says whether all of two episodes is the same.
func sameEpisode(a, b api.Episode) bool {
	return a.Trace == b.Trace && a.First == b.First && a.Last == b.Last && a.Sure == b.Sure &&
		slices.EqualFunc(a.Spans, b.Spans, span.Same)
}

// sameBlock says whether all of two blocks is the same, their episodes too.
func sameBlock(a, b api.Block) bool {
	return a.Number == b.Number && a.Born == b.Born && a.Tier == b.Tier &&
		slices.EqualFunc(a.Episodes, b.Episodes, sameEpisode)
}
