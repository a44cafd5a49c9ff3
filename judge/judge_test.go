package judge_test

import (
	"encoding/binary"
	"fmt"
	"hash/crc32"
	"math"
	"testing"

	"gleaning/api"
	"gleaning/judge"
	"gleaning/sample"
)

// of is a rule of a kind with kids.
func of(kind int, kids ...api.Rule) api.Rule {
	return api.Rule{Kind: kind, Kids: kids}
}

// n is a rule of a kind with a number.
func n(kind, n int) api.Rule {
	return api.Rule{Kind: kind, N: n}
}

// attr is a rule that asks for an attribute.
func attr(key, value string) api.Rule {
	return api.Rule{Kind: api.RAttr, Key: key, Value: value}
}

func TestHashP1401(t *testing.T) {
	c := sample.Chance(14)
	for range 200 {
		trace := api.Trace{Hi: c.Wide(), Lo: c.Wide()}
		b := binary.BigEndian.AppendUint64(nil, trace.Hi)
		b = binary.BigEndian.AppendUint64(b, trace.Lo)
		if got, want := judge.Hash(trace), int(crc32.ChecksumIEEE(b)%1000); got != want {
			t.Fatalf("%v: %d, not %d", trace, got, want)
		}
	}
}

func TestKeepP1401(t *testing.T) {
	yes, no := of(api.RAll), of(api.RAny)
	trace := api.Trace{Hi: 1, Lo: 2}
	hash := judge.Hash(trace)
	e := api.Episode{Trace: trace, Spans: []api.Span{
		{Dur: 5},
		{Dur: 100, Err: true, Attrs: []api.Attr{{Key: "a", Value: "1"}, {Key: "b", Value: ""}}},
		{Dur: 7, Attrs: []api.Attr{{Key: "a", Value: "2"}, {Key: "a", Value: "3"}}},
	}}
	cases := []struct {
		r    api.Rule
		kept int
		want bool
	}{
		{yes, 0, true}, {no, 0, false},
		{of(api.RAll, yes, yes), 0, true}, {of(api.RAll, yes, no), 0, false}, {of(api.RAll, no, yes), 0, false},
		{of(api.RAny, no, no), 0, false}, {of(api.RAny, yes, no), 0, true}, {of(api.RAny, no, yes), 0, true},
		{of(api.RNot, yes), 0, false}, {of(api.RNot, no), 0, true}, {of(api.RNot, of(api.RNot, yes)), 0, true},
		{n(api.RSlow, 0), 0, true}, {n(api.RSlow, 100), 0, true}, {n(api.RSlow, 101), 0, false},
		{n(api.RErr, 0), 0, true},
		{attr("a", "1"), 0, true}, {attr("a", "2"), 0, true}, {attr("a", "3"), 0, true}, {attr("b", ""), 0, true},
		{attr("a", ""), 0, false}, {attr("b", "1"), 0, false}, {attr("c", ""), 0, false},
		{n(api.RMany, 0), 0, true}, {n(api.RMany, 3), 0, true}, {n(api.RMany, 4), 0, false},
		{n(api.RHash, hash), 0, false}, {n(api.RHash, hash+1), 0, true}, {n(api.RHash, 0), 0, false}, {n(api.RHash, 1000), 0, true},
		{n(api.RRate, 0), 0, false}, {n(api.RRate, 0), -1, true}, {n(api.RRate, 5), 4, true}, {n(api.RRate, 5), 5, false},
		{n(api.RRate, 5), math.MaxInt, false}, {n(api.RRate, 0), math.MinInt, true},
		{of(api.RAll, n(api.RErr, 0), of(api.RNot, attr("a", "9"))), 0, true},
	}
	for i, c := range cases {
		if got := judge.Keep(c.r, e, c.kept); got != c.want {
			t.Errorf("%d: %v: %v", i, c.r, got)
		}
	}
}

func TestKeepOfNoSpansP1401(t *testing.T) {
	for i, c := range []struct {
		r    api.Rule
		want bool
	}{
		{n(api.RSlow, 0), false}, {n(api.RErr, 0), false}, {attr("a", ""), false}, {n(api.RMany, 0), true}, {n(api.RMany, 1), false},
		{of(api.RNot, n(api.RErr, 0)), true},
	} {
		if got := judge.Keep(c.r, api.Episode{}, 0); got != c.want {
			t.Errorf("%d: %v: %v", i, c.r, got)
		}
	}
	if judge.Keep(n(api.RErr, 0), api.Episode{Sure: true, Spans: []api.Span{{}}}, 0) {
		t.Error("no span has an error, sure or not")
	}
}

func TestKeepByNoneP1401(t *testing.T) {
	ring := make([]api.Rule, 1)
	ring[0] = of(api.RNot, ring...)
	yes := of(api.RAll)
	e := api.Episode{Spans: []api.Span{{Dur: 5, Err: true, Attrs: []api.Attr{{Key: "k"}}}}}
	for i, r := range []api.Rule{
		{}, n(10, 0), n(api.RSlow, -1), n(api.RMany, -1), n(api.RHash, 1001), n(api.RRate, 1000001), n(api.RErr, 1),
		of(api.RNot), of(api.RNot, yes, yes), of(api.RNot, api.Rule{}), of(api.RAny, yes, api.Rule{}), of(api.RAll, yes, ring[0]),
		of(api.RAll, of(api.RAll, of(api.RAll, of(api.RAll, of(api.RAll, yes))))), {Kind: api.RAll, N: 1}, ring[0], attr("", ""),
	} {
		if judge.Keep(r, e, 0) {
			t.Errorf("%d: kept", i)
		}
	}
}

func TestNothingIsTurnedP1402(t *testing.T) {
	c := sample.Chance(15)
	for range 200 {
		r, e := c.Rule(4), api.Episode{Trace: c.Trace(9), Spans: c.Spans(3, 9)}
		before := fmt.Sprint(r, e)
		first := judge.Keep(r, e, 2)
		if judge.Keep(r, e, 2) != first || fmt.Sprint(r, e) != before {
			t.Fatalf("%v: the second answer is another one", r)
		}
	}
}
