// Package sample makes things of all kinds for the tests: the same ones from the same number on.
package sample

import (
	"gleaning/api"
)

// Chance deals out numbers that look like chance.
type Chance uint64

// Next is a number from 0 to below n (n below 1: 0).
func (c *Chance) Next(n int) int {
	if n < 1 {
		return 0
	}
	return int(c.Wide()>>1) % n
}

// Wide is any number of 64 bits.
func (c *Chance) Wide() uint64 {
	*c += 0x9e3779b97f4a7c15
	n := uint64(*c)
	n = (n ^ n>>30) * 0xbf58476d1ce4e5b9
	n = (n ^ n>>27) * 0x94d049bb133111eb
	return n ^ n>>31
}

// Yes is true once in n.
func (c *Chance) Yes(n int) bool {
	return c.Next(n) == 0
}

// Name is one of a few names.
func (c *Chance) Name(first byte) string {
	return string([]byte{first, byte('0' + c.Next(3))})
}

// Bytes are any bytes.
func (c *Chance) Bytes(n int) []byte {
	out := make([]byte, 0, n)
	for range n {
		out = append(out, byte(c.Next(256)))
	}
	return out
}

// Trace is one of so many traces.
func (c *Chance) Trace(most int) api.Trace {
	n := uint64(c.Next(most))
	return api.Trace{Hi: n % 3, Lo: n}
}

// Span is a right span of one of so many traces.
func (c *Chance) Span(traces int) api.Span {
	s := api.Span{Trace: c.Trace(traces), Id: uint64(c.Next(12)), Parent: uint64(c.Next(12))}
	s.Service = c.Name('s')
	s.Op = c.Name('o')
	s.Start = c.Next(5000)
	s.Dur = c.Next(1200)
	s.Err = c.Yes(4)
	for i := range c.Next(3) {
		s.Attrs = append(s.Attrs, api.Attr{Key: string([]byte{'k', byte('0' + i)}), Value: c.Name('v')})
	}
	return s
}

// Spans are right spans of some traces.
func (c *Chance) Spans(n, traces int) []api.Span {
	out := make([]api.Span, 0, n)
	for range n {
		out = append(out, c.Span(traces))
	}
	return out
}

// Rule is a right policy, so many levels deep at most.
func (c *Chance) Rule(depth int) api.Rule {
	kinds := 9
	if depth < 2 {
		kinds = 6
	}
	switch kind := 9 - c.Next(kinds); kind {
	case api.RErr:
		return api.Rule{Kind: kind}
	case api.RAttr:
		return api.Rule{Kind: kind, Key: c.Name('k'), Value: c.Name('v')}
	case api.RNot:
		return api.Rule{Kind: kind, Kids: []api.Rule{c.Rule(depth - 1)}}
	case api.RAll, api.RAny:
		r := api.Rule{Kind: kind}
		for range c.Next(3) {
			r.Kids = append(r.Kids, c.Rule(depth-1))
		}
		return r
	default:
		return api.Rule{Kind: kind, N: c.Next(1001)}
	}
}

// Episode is a right episode of a trace.
func (c *Chance) Episode(t api.Trace) api.Episode {
	e := api.Episode{Trace: t, First: c.Next(50), Sure: c.Yes(3)}
	e.Last = e.First + c.Next(9)
	for i := range 1 + c.Next(3) {
		s := c.Span(1)
		s.Trace = t
		s.Id = uint64(i*100 + c.Next(100))
		e.Spans = append(e.Spans, s)
	}
	return e
}

// Episodes are right episodes of some traces, in any order.
func (c *Chance) Episodes(n, traces int) []api.Episode {
	out := make([]api.Episode, 0, n)
	for range n {
		out = append(out, c.Episode(c.Trace(traces)))
	}
	return out
}

// counter has any small counts.
func (c *Chance) counter() api.Counter {
	n := api.Counter{Count: c.Next(300), Errs: c.Next(9)}
	for i := range n.By {
		n.By[i] = c.Next(200)
	}
	return n
}

// Blocks are blocks without episodes.
func (c *Chance) Blocks(n int) []api.Block {
	out := make([]api.Block, 0, n)
	for i := range n {
		out = append(out, api.Block{Number: i, Born: c.Next(300), Tier: c.Next(3)})
	}
	return out
}

// State is a right state, in no order; its policy is at most two levels deep, its blocks have no episodes.
func (c *Chance) State() api.State {
	s := api.State{Now: c.Next(300), Sec: c.Next(9999), Kept: c.Next(9), Next: c.Next(300), Policy: c.Rule(2)}
	s.Open = c.Episodes(c.Next(4), 9)
	s.Pending = c.Episodes(c.Next(4), 9)
	for range c.Next(4) {
		s.Memo = append(s.Memo, api.Verdict{Trace: c.Trace(9), Kept: c.Yes(2)})
		s.Rows = append(s.Rows, api.Row{Level: c.Next(3), Window: c.Next(99), Service: c.Name('s'), Op: c.Name('o'), Counter: c.counter()})
		s.Edges = append(s.Edges, api.Edge{From: c.Name('s'), To: c.Name('s'), Count: c.Next(300), Errs: c.Next(9)})
		s.Slots = append(s.Slots, api.Exemplar{Service: c.Name('s'), Op: c.Name('o'), Trace: c.Trace(9), Id: c.Wide(), Block: c.Next(9)})
	}
	s.Blocks = c.Blocks(c.Next(4))
	return s
}

// Config is a small right config, so that all limits are met soon.
func (c *Chance) Config() api.Config {
	return api.Config{
		Idle: 1 + c.Next(3), Age: 1 + c.Next(5), Most: 1 + c.Next(20), Memo: c.Next(8), Cap: 3 + c.Next(40),
		Keep: c.Next(20), Budget: c.Next(3000),
		Horizon: [3]int{c.Next(3000), c.Next(9000), c.Next(99999)},
	}
}

// Op is a right operation; now and then there is nothing for it to do.
func (c *Chance) Op() api.Op {
	switch c.Next(8) {
	case 0, 1, 2, 3:
		return api.Op{Kind: api.OIngest, Spans: c.Spans(1+c.Next(6), 9)}
	case 4, 5:
		return api.Op{Kind: api.OTick, N: c.Next(9000)}
	case 6:
		return api.Op{Kind: api.OPolicy, Policy: c.Rule(2)}
	default:
		return api.Op{Kind: api.OCompact}
	}
}
