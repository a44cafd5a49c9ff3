package model_test

import (
	"fmt"
	"testing"

	"gleaning/api"
	"gleaning/block"
	"gleaning/buffer"
	"gleaning/model"
	"gleaning/sample"
	"gleaning/state"
)

// bounded asks for what holds in each state.
func bounded(t *testing.T, c api.Config, s api.State) {
	t.Helper()
	if !state.Right(s) || buffer.Count(s.Open) > c.Most || len(s.Memo) > c.Memo {
		t.Fatalf("not right: %v", s)
	}
	for _, e := range s.Slots {
		if !pointed(s.Blocks, e) {
			t.Fatalf("%v points to nothing", e)
		}
	}
	for _, b := range s.Blocks {
		if !block.Right(b) || b.Number >= s.Next {
			t.Fatalf("block %d is not right", b.Number)
		}
	}
}

// pointed says whether an exemplar's block is there, and has its span.
func pointed(l []api.Block, e api.Exemplar) bool {
	for _, b := range l {
		if b.Number != e.Block {
			continue
		}
		for _, one := range block.Find(b, e.Trace) {
			for _, s := range one.Spans {
				if s.Id == e.Id && s.Service == e.Service && s.Op == e.Op {
					return true
				}
			}
		}
	}
	return false
}

func TestAllStatesAreRightP2203(t *testing.T) {
	for seed := range 40 {
		c := sample.Chance(seed)
		cfg := c.Config()
		s := model.First(cfg)
		for range 120 {
			if next, err := model.Step(cfg, s, c.Op()); err == api.OK {
				s = next
			}
			bounded(t, cfg, s)
		}
	}
}

func TestCountsDoNotHangOnPoliciesP2203(t *testing.T) {
	for seed := range 10 {
		c := sample.Chance(100 + seed)
		cfg := c.Config()
		a, b := model.First(cfg), model.First(cfg)
		for range 100 {
			o := c.Op()
			if o.Kind == api.OCompact {
				continue
			}
			a, _ = model.Step(cfg, a, o)
			if o.Kind == api.OPolicy {
				o.Policy = c.Rule(1)
			}
			b, _ = model.Step(cfg, b, o)
			same(t, "rows", a.Rows, b.Rows)
			same(t, "edges", a.Edges, b.Edges)
		}
	}
}

func TestAnyRightStateStepsP2203(t *testing.T) {
	c := sample.Chance(200)
	for range 2000 {
		cfg, s := c.Config(), c.State()
		if next, err := model.Step(cfg, s, c.Op()); err == api.OK && !state.Right(next) {
			t.Fatalf("%v: %v", s, next)
		}
	}
}

func TestNewMemoryP2203(t *testing.T) {
	c := sample.Chance(300)
	cfg := c.Config()
	s := model.First(cfg)
	for range 300 {
		o := c.Op()
		before := fmt.Sprint(s, o)
		next, err := model.Step(cfg, s, o)
		if err != api.OK {
			continue
		}
		told := fmt.Sprint(next)
		again, _ := model.Step(cfg, s, o)
		spoil(&again)
		if fmt.Sprint(s, o) != before || fmt.Sprint(next) != told {
			t.Fatalf("memory is shared: %v", o.Kind)
		}
		s = next
	}
}

// spare gives a list spare room, which is nowhere zero.
func spare[T any](l []T, one T) []T {
	out := append([]T(nil), l...)
	for range 5 {
		out = append(out, one)
	}
	return out[:len(l)]
}

func TestSpareRoomP2203(t *testing.T) {
	c := sample.Chance(400)
	for range 500 {
		cfg, s, o := c.Config(), c.State(), c.Op()
		cfg.Most = 1
		s.Open = spare(s.Open, api.Episode{Last: 77})
		s.Pending = spare(s.Pending, api.Episode{Last: 77})
		s.Memo = spare(s.Memo, api.Verdict{Kept: true})
		s.Rows = spare(s.Rows, api.Row{Level: 77})
		s.Edges = spare(s.Edges, api.Edge{Count: 77})
		s.Slots = spare(s.Slots, api.Exemplar{Block: 77})
		s.Blocks = spare(s.Blocks, api.Block{Born: 77})
		o.Spans = spare(o.Spans, api.Span{Dur: 77})
		told := func() string {
			return fmt.Sprint(s.Open[:cap(s.Open)], s.Pending[:cap(s.Pending)], s.Memo[:cap(s.Memo)], s.Rows[:cap(s.Rows)],
				s.Edges[:cap(s.Edges)], s.Slots[:cap(s.Slots)], s.Blocks[:cap(s.Blocks)], o.Spans[:cap(o.Spans)])
		}
		before := told()
		model.Step(cfg, s, o)
		if told() != before {
			t.Fatalf("kind %d: the spare room was written into", o.Kind)
		}
	}
}

// spoil turns all that a state has.
func spoil(s *api.State) {
	all := append(append([]api.Episode(nil), s.Open...), s.Pending...)
	for _, b := range s.Blocks {
		all = append(all, b.Episodes...)
		clear(b.Episodes)
	}
	for _, e := range all {
		for i := range e.Spans {
			clear(e.Spans[i].Attrs)
		}
		clear(e.Spans)
	}
	clear(s.Open)
	clear(s.Pending)
	clear(s.Memo)
	clear(s.Rows)
	clear(s.Edges)
	clear(s.Slots)
	clear(s.Blocks)
	clear(s.Policy.Kids)
}
