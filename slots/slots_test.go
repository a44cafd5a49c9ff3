package slots_test

import (
	"fmt"
	"math"
	"slices"
	"testing"

	"gleaning/api"
	"gleaning/sample"
	"gleaning/slots"
)

// at is an exemplar of a service's operation, with an Id and a block.
func at(service, op string, id uint64, block int) api.Exemplar {
	return api.Exemplar{Service: service, Op: op, Trace: api.Trace{Hi: id, Lo: 7}, Id: id, Block: block}
}

// same holds exemplars against exemplars.
func same(t *testing.T, what string, got []api.Exemplar, want ...api.Exemplar) {
	t.Helper()
	if !slices.Equal(got, want) {
		t.Errorf("%s: %v, not %v", what, got, want)
	}
}

func TestPutP1201(t *testing.T) {
	same(t, "nothing", slots.Put(nil))
	l := slots.Put(nil, at("s", "b", 1, 0))
	l = slots.Put(l, at("s", "b", 2, 0))
	same(t, "the newest first", l, at("s", "b", 2, 0), at("s", "b", 1, 0))
	l = slots.Put(l, at("s", "b", 3, 0))
	same(t, "the last goes", l, at("s", "b", 3, 0), at("s", "b", 2, 0))
	l = slots.Put(l, at("s", "a", 4, 0), at("s", "c", 5, 0), at("r", "z", 6, 0), at("sa", "a", 7, 0), at("S", "b", 8, 0))
	same(t, "in order", l, at("S", "b", 8, 0), at("r", "z", 6, 0), at("s", "a", 4, 0), at("s", "b", 3, 0), at("s", "b", 2, 0), at("s", "c", 5, 0), at("sa", "a", 7, 0))
	same(t, "one by one", slots.Put(nil, at("s", "a", 1, 0), at("s", "a", 2, 0), at("s", "a", 3, 0), at("s", "a", 4, 0)), at("s", "a", 4, 0), at("s", "a", 3, 0))
	same(t, "the same one again", slots.Put([]api.Exemplar{at("s", "a", 1, 0)}, at("s", "a", 1, 0)), at("s", "a", 1, 0), at("s", "a", 1, 0))
	same(t, "nothing put", slots.Put(l), l...)
}

func TestPutKeepsTheOrderP1201(t *testing.T) {
	c := sample.Chance(12)
	l := []api.Exemplar(nil)
	for i := range 200 {
		e := at(c.Name('s'), c.Name('o'), uint64(i), 0)
		l = slots.Put(l, e)
		own := slots.Find(l, e.Service, e.Op)
		if len(own) > api.PerKey || own[0] != e {
			t.Fatalf("%d: %v", i, own)
		}
	}
	if len(l) != 9*api.PerKey || !slices.IsSortedFunc(l, func(a, b api.Exemplar) int {
		return slices.Compare([]string{a.Service, a.Op}, []string{b.Service, b.Op})
	}) {
		t.Errorf("%v", l)
	}
}

func TestPutIntoWhatDoesNotStandSoP1201(t *testing.T) {
	l := []api.Exemplar{at("m", "o", 1, 0), at("z", "o", 2, 0), at("a", "o", 3, 0), at("m", "o", 4, 0)}
	same(t, "ahead of the first that is not ahead", slots.Put(l, at("n", "o", 5, 0)), l[0], at("n", "o", 5, 0), l[1], l[2], l[3])
	same(t, "ahead of its own", slots.Put(l, at("m", "o", 5, 0)), at("m", "o", 5, 0), l[0], l[1], l[2])
	same(t, "behind none that is behind", slots.Put(l, at("a", "o", 5, 0)), at("a", "o", 5, 0), l[0], l[1], l[2], l[3])
}

func TestDropP1201(t *testing.T) {
	l := []api.Exemplar{at("s", "a", 1, 5), at("s", "a", 2, 6), at("s", "b", 3, 5), at("s", "c", 4, -1)}
	same(t, "two", slots.Drop(l, 5), l[1], l[3])
	same(t, "below 0", slots.Drop(l, -1), l[:3]...)
	same(t, "none", slots.Drop(l, math.MaxInt), l...)
	same(t, "of nothing", slots.Drop(nil, 0))
}

func TestMoveP1201(t *testing.T) {
	l := []api.Exemplar{at("s", "a", 1, 5), at("s", "a", 2, 6), at("s", "b", 3, 5)}
	same(t, "two", slots.Move(l, 5, 9), at("s", "a", 1, 9), l[1], at("s", "b", 3, 9))
	same(t, "to another's", slots.Move(l, 6, 5), l[0], at("s", "a", 2, 5), l[2])
	same(t, "none", slots.Move(l, 7, 9), l...)
	same(t, "to itself", slots.Move(l, 5, 5), l...)
	same(t, "of nothing", slots.Move(nil, 0, 1))
}

func TestFindP1201(t *testing.T) {
	l := []api.Exemplar{at("s", "a", 1, 5), at("s", "b", 3, 5), at("s", "a", 2, 6), at("r", "a", 4, 6)}
	same(t, "two", slots.Find(l, "s", "a"), l[0], l[2])
	same(t, "one", slots.Find(l, "r", "a"), l[3])
	same(t, "none", slots.Find(l, "s", ""))
	same(t, "in none", slots.Find(nil, "s", "a"))
}

func TestNewMemoryP1202(t *testing.T) {
	l := make([]api.Exemplar, 3, 9)
	l[0], l[1], l[2] = at("s", "a", 1, 5), at("s", "a", 2, 5), at("s", "b", 3, 5)
	e := []api.Exemplar{at("s", "a", 9, 9), at("s", "c", 9, 9)}
	before := fmt.Sprint(l[:9], e)
	for i, got := range [][]api.Exemplar{
		slots.Put(l), slots.Put(l, e...), slots.Put(nil, e...), slots.Drop(l, 7), slots.Drop(l, 5),
		slots.Move(l, 5, 6), slots.Find(l, "s", "a"),
	} {
		clear(got[:cap(got)])
		if fmt.Sprint(l[:9], e) != before {
			t.Fatalf("%d: memory is shared", i)
		}
	}
}
