package keeper

import (
	"gleaning/api"
	"gleaning/batch"
	"gleaning/check"
	"gleaning/ints"
	"gleaning/model"
	"gleaning/rule"
)

// Op writes an operation that a step may take.
func Op(o api.Op) []byte {
	if !model.Takes(o) {
		return nil
	}
	b := []byte{byte(o.Kind)}
	switch o.Kind {
	case api.OIngest:
		return append(b, batch.Bytes(o.Spans)...)
	case api.OTick:
		return ints.Append(b, uint64(o.N))
	case api.OPolicy:
		return append(b, rule.Bytes(o.Policy)...)
	}
	return b
}

// ReadOp reads an operation back.
func ReadOp(b []byte) (api.Op, api.Errno) {
	r := ints.Reader{Rest: b}
	o := api.Op{Kind: int(r.Byte())}
	err := api.OK
	switch o.Kind {
	case api.OIngest:
		o.Spans, err = batch.Read(r.Take(len(r.Rest)))
	case api.OTick:
		o.N = r.Number()
	case api.OPolicy:
		o.Policy, err = rule.Read(r.Take(len(r.Rest)))
	}
	if err != api.OK || !r.Done() || !model.Takes(o) {
		return api.Op{}, api.ErrBytes
	}
	return o, api.OK
}

// MarkName is the file that says where the last snapshot and the journal are.
const MarkName = "m"

// Mark writes the numbers of a snapshot and of the journal's first segment behind it.
func Mark(snap, first int) []byte {
	b := ints.Append(nil, uint64(snap))
	return check.Append(ints.Append(b, uint64(first)))
}

// ReadMark reads the two numbers back (false: no such bytes).
func ReadMark(b []byte) (int, int, bool) {
	body, ok := check.Cut(b)
	if !ok {
		return 0, 0, false
	}
	r := ints.Reader{Rest: body}
	snap := r.Number()
	first := r.Number()
	if !r.Done() {
		return 0, 0, false
	}
	return snap, first, true
}
