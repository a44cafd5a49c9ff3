package memo_test

import (
	"fmt"
	"math"
	"slices"
	"testing"

	"gleaning/api"
	"gleaning/memo"
)

// on is a verdict on a trace.
func on(n uint64, kept bool) api.Verdict {
	return api.Verdict{Trace: api.Trace{Hi: n / 10, Lo: n % 10}, Kept: kept}
}

func TestPutP1701(t *testing.T) {
	l := []api.Verdict{on(1, true), on(2, false), on(3, true), on(2, true)}
	cases := []struct {
		l    []api.Verdict
		v    api.Verdict
		most int
		want []api.Verdict
	}{
		{nil, on(1, true), 1, []api.Verdict{on(1, true)}},
		{nil, on(1, true), 0, nil},
		{l, on(4, false), 9, []api.Verdict{on(4, false), l[0], l[1], l[2], l[3]}},
		{l, on(4, false), 5, []api.Verdict{on(4, false), l[0], l[1], l[2], l[3]}},
		{l, on(4, false), 4, []api.Verdict{on(4, false), l[0], l[1], l[2]}},
		{l, on(4, false), 1, []api.Verdict{on(4, false)}},
		{l, on(4, false), 0, nil},
		{l, on(4, false), -1, nil},
		{l, on(4, false), math.MinInt, nil},
		{l, on(2, true), math.MaxInt, []api.Verdict{on(2, true), l[0], l[2]}},
		{l, on(3, false), 3, []api.Verdict{on(3, false), l[0], l[1]}},
		{l, on(13, false), 9, []api.Verdict{on(13, false), l[0], l[1], l[2], l[3]}},
	}
	for i, c := range cases {
		if got := memo.Put(c.l, c.v, c.most); !slices.Equal(got, c.want) {
			t.Errorf("%d: %v, not %v", i, got, c.want)
		}
	}
}

func TestFindP1701(t *testing.T) {
	l := []api.Verdict{on(1, true), on(2, false), on(2, true)}
	for n, want := range map[uint64][2]bool{1: {true, true}, 2: {false, true}, 3: {false, false}, 11: {false, false}, 20: {false, false}} {
		kept, there := memo.Find(l, on(n, true).Trace)
		if kept != want[0] || there != want[1] {
			t.Errorf("%d: %v %v", n, kept, there)
		}
	}
	if kept, there := memo.Find(nil, api.Trace{}); kept || there {
		t.Error("in none")
	}
}

func TestNewMemoryP1702(t *testing.T) {
	l := make([]api.Verdict, 2, 9)
	l[0], l[1] = on(1, true), on(2, true)
	before := fmt.Sprint(l[:9])
	for _, v := range []api.Verdict{on(1, false), on(3, false)} {
		got := memo.Put(l, v, 2)
		clear(got[:cap(got)])
	}
	if fmt.Sprint(l[:9]) != before {
		t.Error("memory is shared")
	}
}
