package model

import (
	"slices"

	"gleaning/api"
	"gleaning/block"
	"gleaning/buffer"
	"gleaning/edges"
	"gleaning/judge"
	"gleaning/memo"
	"gleaning/merge"
	"gleaning/retire"
	"gleaning/rollup"
	"gleaning/slots"
)

// run is an operation under way. What it puts into lists, or takes out, are its own lists; the lists within those are never turned.
type run struct {
	c    api.Config
	s    api.State
	made []api.Block
}

// own makes the lists its own that are not made anew.
func (r *run) own() {
	r.s.Open = slices.Clone(r.s.Open)
	r.s.Pending = slices.Clone(r.s.Pending)
	r.s.Blocks = slices.Clone(r.s.Blocks)
}

// ingest counts spans ahead of all choosing, and puts them to their traces.
func (r *run) ingest(l []api.Span) {
	r.s.Rows = rollup.AddAll(r.s.Rows, l, r.c.Cap)
	for _, s := range l {
		r.makeRoom()
		kept, there := memo.Find(r.s.Memo, s.Trace)
		if kept || !there {
			r.s.Open = buffer.PutOwn(r.s.Open, s, r.s.Now, kept)
		}
	}
	r.s.Edges = edges.Add(r.s.Edges, l, r.c.Cap)
}

// makeRoom decides the oldest trace, if no more spans may wait.
func (r *run) makeRoom() {
	if buffer.Count(r.s.Open) < r.c.Most {
		return
	}
	rest, oldest, ok := buffer.OldestOwn(r.s.Open)
	if ok {
		r.s.Open = rest
		r.decide(oldest)
	}
}

// decide says whether an episode is kept, and remembers it.
func (r *run) decide(e api.Episode) {
	kept := e.Sure || judge.Keep(r.s.Policy, e, r.s.Kept)
	r.s.Memo = memo.Put(r.s.Memo, api.Verdict{Trace: e.Trace, Kept: kept}, r.c.Memo)
	if kept {
		r.s.Kept++
		r.s.Pending = append(r.s.Pending, e)
	}
}

// tick goes on to the next tick, which is at that second.
func (r *run) tick(sec int) {
	r.s.Now++
	r.s.Kept = 0
	r.s.Sec = max(r.s.Sec, sec)
	stay, gone := buffer.Close(r.s.Open, r.s.Now, r.c.Idle, r.c.Age)
	r.s.Open = stay
	for _, e := range gone {
		r.decide(e)
	}
	if len(r.s.Pending) > 0 {
		r.flush()
	}
	for _, number := range retire.Choose(r.s.Blocks, r.s.Now, r.c.Keep, r.c.Budget) {
		r.drop(number)
	}
	r.s.Rows = rollup.Expire(r.s.Rows, r.s.Sec, r.c.Horizon)
}

// next is the next block's number.
func (r *run) next() int {
	n := r.s.Next
	r.s.Next++
	return n
}

// flush makes a block of what is pending, and points to its spans.
func (r *run) flush() {
	b := block.Make(r.next(), r.s.Now, 0, r.s.Pending)
	r.s.Pending = nil
	r.s.Blocks = append(r.s.Blocks, b)
	r.made = append(r.made, b)
	all := []api.Exemplar(nil)
	for _, e := range b.Episodes {
		for _, s := range e.Spans {
			all = append(all, api.Exemplar{Service: s.Service, Op: s.Op, Trace: s.Trace, Id: s.Id, Block: b.Number})
		}
	}
	r.s.Slots = slots.Put(r.s.Slots, all...)
}

// drop lets all blocks of a number go, and what points to them.
func (r *run) drop(number int) {
	r.s.Blocks = slices.DeleteFunc(r.s.Blocks, func(b api.Block) bool { return b.Number == number })
	r.s.Slots = slots.Drop(r.s.Slots, number)
}

// compact makes one block of two, if there are two to be merged.
func (r *run) compact() {
	one, two, ok := merge.Pick(r.s.Blocks)
	if !ok {
		return
	}
	a, b := r.s.Blocks[one], r.s.Blocks[two]
	joined := merge.Join(a, b, r.next())
	r.s.Blocks[one] = joined
	r.s.Blocks = slices.Delete(r.s.Blocks, two, two+1)
	r.made = append(r.made, joined)
	r.s.Slots = slots.Move(r.s.Slots, a.Number, joined.Number)
	r.s.Slots = slots.Move(r.s.Slots, b.Number, joined.Number)
}
