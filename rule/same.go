package rule

import (
	"gleaning/api"
)

// pair is two lists of kids, as long as each other.
type pair struct {
	a, b *api.Rule
	n    int
}

// Same says whether all of two policies is the same. Any policies may be handed in, those that hold themselves too: so no pair of lists is gone into twice.
func Same(a, b api.Rule) bool {
	seen := make(map[pair]int)
	as, bs := []api.Rule{a}, []api.Rule{b}
	for len(as) > 0 {
		last := len(as) - 1
		a, b := as[last], bs[last]
		as, bs = as[:last], bs[:last]
		if !sameNode(a, b) {
			return false
		}
		if len(a.Kids) == 0 {
			continue
		}
		kids := pair{&a.Kids[0], &b.Kids[0], len(a.Kids)}
		seen[kids]++
		if seen[kids] == 1 {
			as = append(as, a.Kids...)
			bs = append(bs, b.Kids...)
		}
	}
	return true
}

// sameNode says whether two nodes are the same, but for what their kids are.
func sameNode(a, b api.Rule) bool {
	return a.Kind == b.Kind && a.N == b.N && a.Key == b.Key && a.Value == b.Value && len(a.Kids) == len(b.Kids)
}
